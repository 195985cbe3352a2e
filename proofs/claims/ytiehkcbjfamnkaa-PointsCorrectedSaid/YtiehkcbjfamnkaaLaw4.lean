/-
  The walk of the law on corrected points.
-/
import Derived.Test.YtiehkcbjfamnkaaPaneled
import Derived.Test.YtiehkcbjfamnkaaCor2
namespace Go.Proofs.Ytiehkcbjfamnkaa
open Go.RowKit

theorem kept_below {sb : Nat} {w w' : World} {o : Obj} (hs : sb = w.heap.size) (h : Kept sb (w.alloc o) w') : Below w.heap.size w w' := by
  subst hs
  obtain ⟨a, b, c⟩ := h.outer
  refine ⟨a, b, c, by have := h.more; simp at this; omega, fun k hk => ?_⟩
  exact (h.old k (by simp; omega) (by omega)).trans (Below.heap_alloc w o k hk)

theorem ptsAt_blk {W : World} {b : Nat} {x y : Int} {t : TypeId} (h : W.heap[b]? = some (.cells #[.int .i64 x, .int .i64 y] t (0, 0))) : PtsAt W (some ⟨b, 0, none⟩) 1 [(x, y)] :=
  .inr ⟨_, rfl, lt_of_blk h, fun j u hu => by rw [addr_new, cell_of_blk h]; simpa [flat] using hu⟩
theorem cor_all (n0 n1 m0 m1 p : Int × Int) : ∃ cx cy : Int,
    (∀ W, Calls Try.prog 47 #[two n0 n1, two m0 m1, .agg #[.int .i64 p.1, .int .i64 p.2]] W fun e w' =>
      e = .returned (.tuple #[.agg #[.int .i64 cx, .int .i64 cy], .int .i64 (fidErr n0 n1 m0 m1 [p])]) ∧ Below W.heap.size W w') ∧
    (fidErr n0 n1 m0 m1 [p] = 0 → ∀ W, Calls Try.prog 50 #[two n0 n1, two m0 m1, .agg #[.int .i64 p.1, .int .i64 p.2]] W fun e w' => e = .returned (.agg #[.int .i64 cx, .int .i64 cy]) ∧ Below W.heap.size W w') ∧
    (¬ fidErr n0 n1 m0 m1 [p] = 0 → cx = 0 ∧ cy = 0) := by
  by_cases h : fidErr n0 n1 m0 m1 [p] = 0
  · exact ⟨_, _, fun W => by rw [h]; exact corrected_ok n0 n1 m0 m1 p h W, fun _ W => correctedBy_any n0 n1 m0 m1 p h W, fun h' => absurd h h'⟩
  · exact ⟨0, 0, fun W => corrected_bad n0 n1 m0 m1 p _ h rfl W, fun h' => absurd h' h, fun _ => ⟨rfl, rfl⟩⟩
theorem str_all (n0 n1 m0 m1 : Int × Int) : ∃ cx cy : Int,
    (∀ W, Calls Try.prog 48 #[two n0 n1, two m0 m1] W fun e w' =>
      e = .returned (.tuple #[.agg #[.int .i64 cx, .int .i64 cy], .int .i64 (fidErr n0 n1 m0 m1 [])]) ∧ Below W.heap.size W w') ∧
    (fidErr n0 n1 m0 m1 [] = 0 → ∀ W, Calls Try.prog 51 #[two n0 n1, two m0 m1] W fun e w' => e = .returned (.agg #[.int .i64 cx, .int .i64 cy]) ∧ Below W.heap.size W w') ∧
    (¬ fidErr n0 n1 m0 m1 [] = 0 → cx = 0 ∧ cy = 0) := by
  by_cases h : fidErr n0 n1 m0 m1 [] = 0
  · obtain ⟨h0, h1, h2, h3, _, hne, hme⟩ := fid_ok h
    exact ⟨_, _, fun W => by rw [h]; exact stretch_ok n0 n1 m0 m1 h W, fun _ W => stretchOf_any n0 n1 m0 m1 h0 h1 h2 h3 hne W, fun h' => absurd h h'⟩
  · exact ⟨0, 0, fun W => stretch_bad n0 n1 m0 m1 _ h rfl W, fun h' => absurd h' h, fun _ => ⟨rfl, rfl⟩⟩

set_option maxRecDepth 100000 in
set_option maxHeartbeats 4000000 in
theorem law4_any (A : Option Addr) (n c : Nat) (w : World) (hc : n ≤ c) (hm : c ≤ 9223372036854775807) (hA : IntsAt w A n w.heap.size) :
    Calls Try.prog 6 #[.slice A n c] w fun e w' => e = .returned (.bool true) ∧ Below w.heap.size w w' := by
  have hs0 : IsStream (w.alloc (.cells #[.slice A n c, .int .i64 0] 25)) w.heap.size 0 := by
    refine ⟨A, n, c, 0, hc, hm, Nat.le_refl _, blk_new w _ rfl, fun hn => ?_⟩
    obtain ⟨ad, e, h1, h2, h3⟩ := hA hn
    refine ⟨ad, e, by simp; omega, h2, fun k hk => ?_⟩
    obtain ⟨x, hx⟩ := h3 k hk
    exact ⟨x, ((((Below.refl w.heap.size w).alloc (Nat.le_refl _) _).cell (by rw [addr_block]; exact h1))).trans hx⟩
  go_enter Try.func6, Try.ntmps6
  go_upto_region 2 with (fail)
  go_cut [4, 5, 6] (fun s4 s5 s6 wc => ∃ (g : Nat) (x1 y1 x2 y2 x3 y3 x4 y4 x5 y5 : Int), s4 = .pointer (some ⟨g, 0, none⟩) ∧ s5 = .pointer (some ⟨g + 1, 0, none⟩) ∧ s6 = .pointer (some ⟨g + 1 + 1, 0, none⟩) ∧ Hid (
    wc.heap[g]? = some (.cells #[.int .i64 x1, .int .i64 y1, .int .i64 x2, .int .i64 y2] 97 (0, 0)) ∧
    wc.heap[g + 1]? = some (.cells #[.int .i64 x3, .int .i64 y3, .int .i64 x4, .int .i64 y4] 97 (0, 0)) ∧
    wc.heap[g + 1 + 1]? = some (.cells #[.int .i64 x5, .int .i64 y5] 95 (0, 0)) ∧ Below w.heap.size w wc))
  case first =>
    go_wp2_with fail
    refine (apoint_any w.heap.size 0 _ (by omega) hs0).mono ?_
    rintro e w1 ⟨x1, y1, hx1, hy1, hy1', rfl, t1⟩
    have X1 := Lib.hid (And.intro hx1 (And.intro hy1 hy1'))
    clear hx1 hy1 hy1'
    go_wp2_with fail
    refine (apoint_any w.heap.size 7 _ (by omega) t1.1).mono ?_
    rintro e w2 ⟨x2, y2, hx2, hy2, hy2', rfl, t2⟩
    have X2 := Lib.hid (And.intro hx2 (And.intro hy2 hy2'))
    clear hx2 hy2 hy2'
    go_wp2_with fail
    refine (apoint_any w.heap.size 14 _ (by omega) t2.1).mono ?_
    rintro e w3 ⟨x3, y3, hx3, hy3, hy3', rfl, t3⟩
    clear hx3 hy3 hy3'
    go_wp2_with fail
    refine (apoint_any w.heap.size 21 _ (by omega) t3.1).mono ?_
    rintro e w4 ⟨x4, y4, hx4, hy4, hy4', rfl, t4⟩
    clear hx4 hy4 hy4'
    go_wp2_with fail
    refine (apoint_any w.heap.size 28 _ (by omega) t4.1).mono ?_
    rintro e w5 ⟨x5, y5, hx5, hy5, hy5', rfl, t5⟩
    clear hx5 hy5 hy5'
    go_wp2_with fail
    go_meet
    have HB := kept_below rfl ((((t1.trans t2).trans t3).trans t4).trans t5).2
    exact ⟨w5.heap.size, x1, y1, x2, y2, x3, y3, x4, y4, x5, y5, rfl, rfl, rfl, blk_alloc (blk_alloc (blk_new _ _ rfl) _) _, blk_alloc (blk_new _ _ (by simp)) _, blk_new _ _ (by simp), ((HB.alloc HB.size _).alloc (by have := HB.size; simp; omega) _).alloc (by have := HB.size; simp; omega) _⟩
  case rest =>
    obtain ⟨g, x1, y1, x2, y2, x3, y3, x4, y4, x5, y5, rfl, rfl, rfl, HW⟩ := hcut
    have cP := fun (b : Nat) (W : World) h => pointsFault_any (x1, y1) (x2, y2) (x3, y3) (x4, y4) (some ⟨b, 0, none⟩) 1 [(x5, y5)] (by simp) W h
    have cQ := fun (W : World) => pointsFault_any (x1, y1) (x2, y2) (x3, y3) (x4, y4) none 0 [] (by simp) W (.inl ⟨rfl, rfl, rfl⟩)
    obtain ⟨cx, cy, hC, hBy, hC0⟩ := cor_all (x1, y1) (x2, y2) (x3, y3) (x4, y4) (x5, y5)
    obtain ⟨sx, sy, hS, hSo, hS0⟩ := str_all (x1, y1) (x2, y2) (x3, y3) (x4, y4)
    generalize fidErr (x1, y1) (x2, y2) (x3, y3) (x4, y4) [(x5, y5)] = k1 at *
    generalize fidErr (x1, y1) (x2, y2) (x3, y3) (x4, y4) [] = k2 at *
    unfold two at cP cQ hC hBy hS hSo
    dsimp only at cP cQ hC hBy hS hSo
    have CP := Lib.hid cP
    have CQ := Lib.hid cQ
    have HC := Lib.hid hC
    have HBy := Lib.hid hBy
    have HS := Lib.hid hS
    have HSo := Lib.hid hSo
    have HC0 := Lib.hid hC0
    have HS0 := Lib.hid hS0
    clear cP cQ hC hBy hS hSo hC0 hS0
    obtain ⟨n0, n1, n2, n3⟩ := blk4 HW.out.1
    obtain ⟨m0, m1, m2, m3⟩ := blk4 HW.out.2.1
    obtain ⟨p0, p1, _, _⟩ := blk2 HW.out.2.2.1
    go_wp2_with fail
    refine (HC.out _).mono ?_
    rintro e w1 ⟨rfl, b1⟩
    clear n0 n1 n2 n3 m0 m1 m2 m3 p0 p1
    have hg2 := lt_of_blk HW.out.2.2.1
    have hs1 := b1.size
    obtain ⟨n0, n1, n2, n3⟩ := blk4 (blk_below b1 HW.out.1)
    obtain ⟨m0, m1, m2, m3⟩ := blk4 (blk_below b1 HW.out.2.1)
    have hlt1 : g < w1.heap.size := by omega
    have hlt2 : g + 1 < w1.heap.size := by omega
    go_wp2_with fail
    refine (HS.out _).mono ?_
    rintro e w2 ⟨rfl, b2⟩
    clear n0 n1 n2 n3 m0 m1 m2 m3 hlt1 hlt2
    have hs2 := b2.size
    have hn : w2.heap[g]? = _ := blk_below b2 (blk_alloc (blk_below b1 HW.out.1) _)
    have hm : w2.heap[g + 1]? = _ := blk_below b2 (blk_alloc (blk_below b1 HW.out.2.1) _)
    have hp : w2.heap[g + 1 + 1]? = _ := blk_below b2 (blk_alloc (blk_below b1 HW.out.2.2.1) _)
    have hc : w2.heap[w1.heap.size]? = _ := blk_below b2 (blk_new w1 _ rfl)
    have hb : Below w.heap.size w w2 := (((HW.out.2.2.2.ext b1).alloc (Nat.le_trans HW.out.2.2.2.size b1.size) _)).then_below b2 (by have := HW.out.2.2.2.size; simp; omega)
    have HH := Lib.hid (And.intro hn (And.intro hm (And.intro hp (And.intro hc hb))))
    have hgs : g + 1 + 1 < w1.heap.size := by omega
    have hcs : w1.heap.size < w2.heap.size := by simp at hs2; omega
    clear hn hm hp hc hb b1 b2 hs1 hs2 hg2 HW
    generalize w1.heap.size = g1 at *
    go_wp2_with fail
    refine Rg.rgL (fun a b => Below a.heap.size a b)
      [(fun vs u => vs 0 = .agg #[.int .i64 x1, .int .i64 y1, .int .i64 x2, .int .i64 y2]), (fun vs u => vs 1 = .agg #[.int .i64 x3, .int .i64 y3, .int .i64 x4, .int .i64 y4]), (fun vs u => vs 2 = .agg #[.int .i64 x5, .int .i64 y5]), (fun vs u => ∃ b : Nat, vs 3 = .slice (some ⟨b, 0, none⟩) 1 1 ∧ u.heap[b]? = some (.cells #[.int .i64 x5, .int .i64 y5] 95 (0, 0))), (fun vs u => vs 4 = .int .i64 k1), (fun vs u => vs 5 = .agg #[.int .i64 x1, .int .i64 y1, .int .i64 x2, .int .i64 y2]), (fun vs u => vs 6 = .agg #[.int .i64 x3, .int .i64 y3, .int .i64 x4, .int .i64 y4])]
      [[], [], [], [2], [0, 1, 2, 3], [], []] [some 43, some 44, some 45, some 46, some 47, some 48, some 49, some 50, some 11, some 12] [3] (fun _ _ => True) [[], [], [], [2], [0, 1, 2, 3], [], [], [0, 1, 2, 3, 4, 5, 6], [0, 1, 2, 3, 4, 5, 6, 7], [0, 1, 2, 3, 4, 5, 6, 7, 8]]
      (by kernel_rfl) (by decide) (by kernel_rfl) (by kernel_rfl) (by kernel_rfl) (by kernel_rfl) (by kernel_rfl) (fun _ => Below.refl _ _) (fun _ _ _ h k => h.ext k) (fun _ _ h => h.size) ?_ trivial ?_ ?_
    · intro t ht vs w w' h hE
      simp only [List.mem_cons, List.not_mem_nil, or_false] at ht
      rcases ht with rfl | rfl | rfl | rfl | rfl | rfl | rfl
      · exact h
      · exact h
      · exact h
      · obtain ⟨b, e, k⟩ := h
        exact ⟨b, e, blk_below hE k⟩
      · exact h
      · exact h
      · exact h
    ·
      refine Rg.cons 0 1 rfl (Rg.plain rfl ?_) ?_
      · intro vs W n hn hI hG hT hF K hK
        simp only [Rg.putsD, List.getD_cons_zero, List.getD_cons_succ, Act.put, List.setIfInBounds_toArray, List.set_cons_zero, List.set_cons_succ] at hK ⊢
        clear hn
        clear hF hI
        obtain ⟨c0, c1, c2, c3⟩ := blk4 (blk_below hG (blk_alloc HH.out.1 _))
        have H := Lib.hid hK
        clear hK hT
        go_simp
        exact H.out _ _ (Below.refl _ _) rfl (fun h => by cases h) trivial
      refine Rg.cons 1 2 rfl (Rg.plain rfl ?_) ?_
      · intro vs W n hn hI hG hT hF K hK
        simp only [Rg.putsD, List.getD_cons_zero, List.getD_cons_succ, Act.put, List.setIfInBounds_toArray, List.set_cons_zero, List.set_cons_succ] at hK ⊢
        clear hn
        clear hF hI
        obtain ⟨c0, c1, c2, c3⟩ := blk4 (blk_below hG (blk_alloc HH.out.2.1 _))
        have H := Lib.hid hK
        clear hK hT
        go_simp
        exact H.out _ _ (Below.refl _ _) rfl (fun h => by cases h) trivial
      refine Rg.cons 2 3 rfl (Rg.plain rfl ?_) ?_
      · intro vs W n hn hI hG hT hF K hK
        simp only [Rg.putsD, List.getD_cons_zero, List.getD_cons_succ, Act.put, List.setIfInBounds_toArray, List.set_cons_zero, List.set_cons_succ] at hK ⊢
        clear hn
        clear hF hI
        obtain ⟨c0, c1, _, _⟩ := blk2 (blk_below hG (blk_alloc HH.out.2.2.1 _))
        have H := Lib.hid hK
        clear hK hT
        go_simp
        exact H.out _ _ (Below.refl _ _) rfl (fun h => by cases h) trivial
      refine Rg.cons 3 4 rfl (Rg.plain rfl ?_) ?_
      · intro vs W n hn hI hG hT hF K hK
        simp only [Rg.putsD, List.getD_cons_zero, List.getD_cons_succ, Act.put, List.setIfInBounds_toArray, List.set_cons_zero, List.set_cons_succ] at hK ⊢
        clear hn
        clear hF hI
        have t2 : vs 2 = .agg #[.int .i64 x5, .int .i64 y5] := hT 2 (by decide)
        simp only [t2] at hK
        have H := Lib.hid hK
        clear hK hT
        go_simp
        exact H.out _ _ ((Below.refl _ _).alloc (Nat.le_refl _) _) (show ∃ b : Nat, _ = _ ∧ _ = _ from ⟨_, rfl, blk_new W _ rfl⟩) (fun _ => ⟨W.heap.size, rfl, Nat.le_refl _, by simp⟩) trivial
      refine Rg.cons 4 5 rfl (Rg.plain rfl ?_) ?_
      · intro vs W n hn hI hG hT hF K hK
        simp only [Rg.putsD, List.getD_cons_zero, List.getD_cons_succ, Act.put, List.setIfInBounds_toArray, List.set_cons_zero, List.set_cons_succ] at hK ⊢
        clear hn
        clear hF hI
        have t0 : vs 0 = .agg #[.int .i64 x1, .int .i64 y1, .int .i64 x2, .int .i64 y2] := hT 0 (by decide)
        have t1 : vs 1 = .agg #[.int .i64 x3, .int .i64 y3, .int .i64 x4, .int .i64 y4] := hT 1 (by decide)
        have t2 : vs 2 = .agg #[.int .i64 x5, .int .i64 y5] := hT 2 (by decide)
        have t3 : ∃ b : Nat, vs 3 = .slice (some ⟨b, 0, none⟩) 1 1 ∧ W.heap[b]? = some (.cells #[.int .i64 x5, .int .i64 y5] 95 (0, 0)) := hT 3 (by decide)
        obtain ⟨b3, e3, q3⟩ := t3
        simp only [e3] at hK
        have KQ := Lib.hid (ptsAt_blk q3)
        clear q3
        simp only [t0, t1, t2] at hK
        have H := Lib.hid hK
        clear hK hT
        go_simp
        refine (CP.out _ _ KQ.out).mono ?_
        rintro e w1 ⟨rfl, b1⟩
        exact H.out _ _ b1 rfl (fun h => by cases h) trivial
      refine Rg.cons 5 6 rfl (Rg.plain rfl ?_) ?_
      · intro vs W n hn hI hG hT hF K hK
        simp only [Rg.putsD, List.getD_cons_zero, List.getD_cons_succ, Act.put, List.setIfInBounds_toArray, List.set_cons_zero, List.set_cons_succ] at hK ⊢
        clear hn
        clear hF hI
        obtain ⟨c0, c1, c2, c3⟩ := blk4 (blk_below hG (blk_alloc HH.out.1 _))
        have H := Lib.hid hK
        clear hK hT
        go_simp
        exact H.out _ _ (Below.refl _ _) rfl (fun h => by cases h) trivial
      refine Rg.cons 6 7 rfl (Rg.plain rfl ?_) ?_
      · intro vs W n hn hI hG hT hF K hK
        simp only [Rg.putsD, List.getD_cons_zero, List.getD_cons_succ, Act.put, List.setIfInBounds_toArray, List.set_cons_zero, List.set_cons_succ] at hK ⊢
        clear hn
        clear hF hI
        obtain ⟨c0, c1, c2, c3⟩ := blk4 (blk_below hG (blk_alloc HH.out.2.1 _))
        have H := Lib.hid hK
        clear hK hT
        go_simp
        exact H.out _ _ (Below.refl _ _) rfl (fun h => by cases h) trivial
      exact Rg.nil
    · intro vs W hG hI hT hF
      have t0 : vs 0 = .agg #[.int .i64 x1, .int .i64 y1, .int .i64 x2, .int .i64 y2] := hT 0 (by decide)
      have t1 : vs 1 = .agg #[.int .i64 x3, .int .i64 y3, .int .i64 x4, .int .i64 y4] := hT 1 (by decide)
      have t2 : vs 2 = .agg #[.int .i64 x5, .int .i64 y5] := hT 2 (by decide)
      have t3 : ∃ b : Nat, vs 3 = .slice (some ⟨b, 0, none⟩) 1 1 ∧ W.heap[b]? = some (.cells #[.int .i64 x5, .int .i64 y5] 95 (0, 0)) := hT 3 (by decide)
      have t4 : vs 4 = .int .i64 k1 := hT 4 (by decide)
      have t5 : vs 5 = .agg #[.int .i64 x1, .int .i64 y1, .int .i64 x2, .int .i64 y2] := hT 5 (by decide)
      have t6 : vs 6 = .agg #[.int .i64 x3, .int .i64 y3, .int .i64 x4, .int .i64 y4] := hT 6 (by decide)
      simp only [List.length_cons, List.length_nil, Nat.reduceAdd, List.range, List.range.loop, List.drop_succ_cons, List.drop_zero, Rg.putsD, List.getD_cons_zero, List.getD_cons_succ, Act.put, List.setIfInBounds_toArray, List.set_cons_zero, List.set_cons_succ, t0, t1, t2, t4, t5, t6]
      clear hT t0 t1 t2 t4 t5 t6
      have hn := blk_below hG (blk_alloc HH.out.1 _)
      have hm := blk_below hG (blk_alloc HH.out.2.1 _)
      have hp := blk_below hG (blk_alloc HH.out.2.2.1 _)
      have hc := blk_below hG (blk_alloc HH.out.2.2.2.1 _)
      have hs := blk_below hG (blk_new w2 _ rfl)
      have hb := ((HH.out.2.2.2.2.alloc HH.out.2.2.2.2.size _).drew).then_below hG (by have := HH.out.2.2.2.2.size; simp; omega)
      have hsz := hG.size
      have HA := Lib.hid (And.intro hn (And.intro hm (And.intro hp (And.intro hc (And.intro hs hb)))))
      have hss : w2.heap.size < W.heap.size := by simp at hsz; omega
      clear t3 hF hG hI hn hm hp hc hs hb hsz HH
      generalize w2.heap.size = g2 at *
      go_wp2_with fail
      refine (CQ.out _).mono ?_
      rintro e w3 ⟨rfl, b3⟩
      have hs3 := b3.size
      have hn : w3.heap[g]? = _ := blk_below b3 HA.out.1
      have hm : w3.heap[g + 1]? = _ := blk_below b3 HA.out.2.1
      have hp : w3.heap[g + 1 + 1]? = _ := blk_below b3 HA.out.2.2.1
      have hc : w3.heap[g1]? = _ := blk_below b3 HA.out.2.2.2.1
      have hs : w3.heap[g2]? = _ := blk_below b3 HA.out.2.2.2.2.1
      have hb : Below w.heap.size w w3 := HA.out.2.2.2.2.2.ext b3
      have hg23 : g2 < w3.heap.size := by omega
      have hg13 : g1 < w3.heap.size := by omega
      have hg03 : g < w3.heap.size := by omega
      have hg04 : g + 1 < w3.heap.size := by omega
      have hg05 : g + 1 + 1 < w3.heap.size := by omega
      have HZ := Lib.hid (And.intro hn (And.intro hm (And.intro hp (And.intro hc (And.intro hs hb)))))
      clear hn hm hp hc hs hb hss b3 hs3 HA
      cases e1 : (k1 == 0) <;> cases e2 : (k2 == 0)
      case false.false =>
        obtain ⟨rfl, rfl⟩ := HC0.out (by simpa using e1)
        obtain ⟨rfl, rfl⟩ := HS0.out (by simpa using e2)
        obtain ⟨c0, c1, _, _⟩ := blk2 HZ.out.2.2.2.1
        obtain ⟨s0, s1, _, _⟩ := blk2 HZ.out.2.2.2.2.1
        go_wp2_with fail
        refine (paneled_any _).mono ?_
        rintro e w4 ⟨rfl, b4⟩
        go_wp2_with fail
        go_ret
        exact ⟨rfl, ((HZ.out.2.2.2.2.2.alloc HZ.out.2.2.2.2.2.size _).alloc (by have := HZ.out.2.2.2.2.2.size; simp; omega) _).then_below b4 (by have := HZ.out.2.2.2.2.2.size; simp; omega)⟩
      case true.false =>
        have hk : k1 = 0 := by simpa using e1
        obtain ⟨rfl, rfl⟩ := HS0.out (by simpa using e2)
        obtain ⟨c0, c1, _, _⟩ := blk2 HZ.out.2.2.2.1
        obtain ⟨s0, s1, _, _⟩ := blk2 HZ.out.2.2.2.2.1
        obtain ⟨n0, n1, n2, n3⟩ := blk4 HZ.out.1
        obtain ⟨m0, m1, m2, m3⟩ := blk4 HZ.out.2.1
        obtain ⟨p0, p1, _, _⟩ := blk2 HZ.out.2.2.1
        have HBK := Lib.hid (HBy.out hk)
        clear hk
        go_wp2_with fail
        refine (HBK.out _).mono ?_
        rintro e w4 ⟨rfl, b4⟩
        have k13 : w4.heap[w3.heap.size]? = _ := blk_below b4 (blk_alloc (blk_new w3 _ rfl) _)
        have k14 : w4.heap[w3.heap.size + 1]? = _ := blk_below b4 (blk_new (w3.alloc _) _ (by simp))
        have kc : w4.heap[g1]? = _ := blk_below b4 (blk_alloc (blk_alloc HZ.out.2.2.2.1 _) _)
        have ks : w4.heap[g2]? = _ := blk_below b4 (blk_alloc (blk_alloc HZ.out.2.2.2.2.1 _) _)
        have hsz4 := b4.size
        have HB4 : Hid (Below w.heap.size w w4) := ((HZ.out.2.2.2.2.2.alloc HZ.out.2.2.2.2.2.size _).alloc (by have := HZ.out.2.2.2.2.2.size; simp; omega) _).then_below b4 (by have := HZ.out.2.2.2.2.2.size; simp; omega)
        have h34 : w3.heap.size + 1 < w4.heap.size := by simp at hsz4; omega
        have hw3 := Lib.hid HZ.out.2.2.2.2.2.size
        clear c0 c1 s0 s1 n0 n1 n2 n3 m0 m1 m2 m3 p0 p1 b4 hsz4 HZ
        generalize w3.heap.size = g3 at *
        obtain ⟨c0, c1, _, _⟩ := blk2 kc
        obtain ⟨s0, s1, _, _⟩ := blk2 ks
        obtain ⟨a0, a1, a2, a3⟩ := blk2 k13
        obtain ⟨d0, d1, _, _⟩ := blk2 k14
        clear k13 k14 kc ks
        go_wp2_with fail
        refine (paneled_any _).mono ?_
        rintro e w5 ⟨rfl, b5⟩
        go_wp2_with fail
        go_ret
        have := hw3.out
        exact ⟨rfl, ((HB4.out.setCell (by simpa using hw3.out) _).setCell (by simpa using hw3.out) _).then_below b5 (by have := HB4.out.size; simp; omega)⟩
      case false.true =>
        obtain ⟨rfl, rfl⟩ := HC0.out (by simpa using e1)
        have hk : k2 = 0 := by simpa using e2
        obtain ⟨c0, c1, _, _⟩ := blk2 HZ.out.2.2.2.1
        obtain ⟨s0, s1, _, _⟩ := blk2 HZ.out.2.2.2.2.1
        obtain ⟨n0, n1, n2, n3⟩ := blk4 HZ.out.1
        obtain ⟨m0, m1, m2, m3⟩ := blk4 HZ.out.2.1
        have HBK := Lib.hid (HSo.out hk)
        clear hk
        go_wp2_with fail
        refine (HBK.out _).mono ?_
        rintro e w4 ⟨rfl, b4⟩
        have k13 : w4.heap[w3.heap.size]? = _ := blk_below b4 (blk_alloc (blk_new w3 _ rfl) _)
        have k14 : w4.heap[w3.heap.size + 1]? = _ := blk_below b4 (blk_new (w3.alloc _) _ (by simp))
        have kc : w4.heap[g1]? = _ := blk_below b4 (blk_alloc (blk_alloc HZ.out.2.2.2.1 _) _)
        have ks : w4.heap[g2]? = _ := blk_below b4 (blk_alloc (blk_alloc HZ.out.2.2.2.2.1 _) _)
        have kn : w4.heap[g]? = _ := blk_below b4 (blk_alloc (blk_alloc HZ.out.1 _) _)
        have km : w4.heap[g + 1]? = _ := blk_below b4 (blk_alloc (blk_alloc HZ.out.2.1 _) _)
        have hsz4 := b4.size
        have HB4 : Hid (Below w.heap.size w w4) := ((HZ.out.2.2.2.2.2.alloc HZ.out.2.2.2.2.2.size _).alloc (by have := HZ.out.2.2.2.2.2.size; simp; omega) _).then_below b4 (by have := HZ.out.2.2.2.2.2.size; simp; omega)
        have h34 : w3.heap.size + 1 < w4.heap.size := by simp at hsz4; omega
        have hw3 := Lib.hid HZ.out.2.2.2.2.2.size
        clear c0 c1 s0 s1 n0 n1 n2 n3 m0 m1 m2 m3 b4 hsz4 HZ kn km
        generalize w3.heap.size = g3 at *
        obtain ⟨c0, c1, _, _⟩ := blk2 kc
        obtain ⟨s0, s1, _, _⟩ := blk2 ks
        obtain ⟨a0, a1, a2, a3⟩ := blk2 k13
        obtain ⟨d0, d1, d2, d3⟩ := blk2 k14
        clear k13 k14 kc ks
        go_wp2_with fail
        refine (paneled_any _).mono ?_
        rintro e w5 ⟨rfl, b5⟩
        go_wp2_with fail
        go_ret
        have := hw3.out
        exact ⟨rfl, ((HB4.out.setCell (by simp; omega) _).setCell (by simp; omega) _).then_below b5 (by have := HB4.out.size; simp; omega)⟩
      case true.true =>
        have hk : k1 = 0 := by simpa using e1
        have hj : k2 = 0 := by simpa using e2
        obtain ⟨c0, c1, _, _⟩ := blk2 HZ.out.2.2.2.1
        obtain ⟨s0, s1, _, _⟩ := blk2 HZ.out.2.2.2.2.1
        obtain ⟨n0, n1, n2, n3⟩ := blk4 HZ.out.1
        obtain ⟨m0, m1, m2, m3⟩ := blk4 HZ.out.2.1
        obtain ⟨p0, p1, _, _⟩ := blk2 HZ.out.2.2.1
        have HBK := Lib.hid (HBy.out hk)
        have HBS := Lib.hid (HSo.out hj)
        clear hk hj
        go_wp2_with fail
        refine (HBK.out _).mono ?_
        rintro e w4 ⟨rfl, b4⟩
        have k13 : w4.heap[w3.heap.size]? = _ := blk_below b4 (blk_alloc (blk_new w3 _ rfl) _)
        have k14 : w4.heap[w3.heap.size + 1]? = _ := blk_below b4 (blk_new (w3.alloc _) _ (by simp))
        have kc : w4.heap[g1]? = _ := blk_below b4 (blk_alloc (blk_alloc HZ.out.2.2.2.1 _) _)
        have ks : w4.heap[g2]? = _ := blk_below b4 (blk_alloc (blk_alloc HZ.out.2.2.2.2.1 _) _)
        have kn : w4.heap[g]? = _ := blk_below b4 (blk_alloc (blk_alloc HZ.out.1 _) _)
        have km : w4.heap[g + 1]? = _ := blk_below b4 (blk_alloc (blk_alloc HZ.out.2.1 _) _)
        have hsz4 := b4.size
        have HB4 : Hid (Below w.heap.size w w4) := ((HZ.out.2.2.2.2.2.alloc HZ.out.2.2.2.2.2.size _).alloc (by have := HZ.out.2.2.2.2.2.size; simp; omega) _).then_below b4 (by have := HZ.out.2.2.2.2.2.size; simp; omega)
        have h34 : w3.heap.size + 1 < w4.heap.size := by simp at hsz4; omega
        have hw3 := Lib.hid HZ.out.2.2.2.2.2.size
        clear c0 c1 s0 s1 n0 n1 n2 n3 m0 m1 m2 m3 p0 p1 b4 hsz4 HZ
        have hg34 : w3.heap.size < w4.heap.size := by omega
        generalize w3.heap.size = g3 at *
        have K13 := Lib.hid k13
        have K14 := Lib.hid k14
        have KC := Lib.hid kc
        have KS := Lib.hid ks
        obtain ⟨n0, n1, n2, n3⟩ := blk4 kn
        obtain ⟨m0, m1, m2, m3⟩ := blk4 km
        obtain ⟨a0, a1, a2, a3⟩ := blk2 k13
        clear k13 k14 kc ks kn km
        go_wp2_with fail
        refine (HBS.out _).mono ?_
        rintro e w5 ⟨rfl, b5⟩
        have k13 : w5.heap[g3]? = _ := blk_below b5 (blk_set (blk_set K13.out _) _)
        have k14 : w5.heap[g3 + 1]? = _ := blk_below b5 (blk_far (blk_far K14.out (by simp) _) (by simp) _)
        have kc : w5.heap[g1]? = _ := blk_below b5 (blk_far (blk_far KC.out (by simp; omega) _) (by simp; omega) _)
        have ks : w5.heap[g2]? = _ := blk_below b5 (blk_far (blk_far KS.out (by simp; omega) _) (by simp; omega) _)
        have hsz5 := b5.size
        have h35 : g3 + 1 < w5.heap.size := by simp at hsz5; omega
        have HB5 : Hid (Below w.heap.size w w5) := ((HB4.out.setCell (by simpa using hw3.out) _).setCell (by simpa using hw3.out) _).then_below b5 (by have := HB4.out.size; simp; omega)
        clear n0 n1 n2 n3 m0 m1 m2 m3 a0 a1 a2 a3 b5 hsz5 K13 K14 KC KS
        obtain ⟨c0, c1, _, _⟩ := blk2 kc
        obtain ⟨s0, s1, _, _⟩ := blk2 ks
        obtain ⟨a0, a1, a2, a3⟩ := blk2 k13
        obtain ⟨d0, d1, d2, d3⟩ := blk2 k14
        clear k13 k14 kc ks
        go_wp2_with fail
        refine (paneled_any _).mono ?_
        rintro e w6 ⟨rfl, b6⟩
        go_wp2_with fail
        go_ret
        have := hw3.out
        exact ⟨rfl, ((HB5.out.setCell (by simp; omega) _).setCell (by simp; omega) _).then_below b6 (by have := HB5.out.size; simp; omega)⟩
end Go.Proofs.Ytiehkcbjfamnkaa
