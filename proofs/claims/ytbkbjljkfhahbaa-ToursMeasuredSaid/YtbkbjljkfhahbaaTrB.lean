/-
  Improved: the program's way to see whether a turn makes a tour shorter.
-/
import Derived.Test.YtbkbjljkfhahbaaTqY
import Derived.Laws.EntriesVeiled
namespace Go.Proofs.Ytbkbjljkfhahbaa
open Go.RowKit
set_option linter.unusedSimpArgs false
set_option linter.unusedVariables false

/-- What gives the point at a place. -/
def atF (q : Nat) : Value := .func (.func 55) #[] #[.pointer (some ⟨q + 2, 0, none⟩), .pointer (some ⟨q, 0, none⟩), .pointer (some ⟨q + 1, 0, none⟩)]
/-- What it has captured. -/
structure SI (q : Nat) (s : Int × Int) (pv ov : Value) (W : World) : Prop where
  k0 : W.heap[q]? = some (.cells #[.int .i64 s.1, .int .i64 s.2] 27 (0, 0))
  k1 : W.heap[q + 1]? = some (.cells #[pv] 29 (0, 0))
  k2 : W.heap[q + 2]? = some (.cells #[ov] 22 (0, 0))
  k3 : W.heap[q + 3]? = some (.cells #[atF q] 86 (0, 0))
theorem SI.below {q : Nat} {s : Int × Int} {pv ov : Value} {W W' : World} (h : SI q s pv ov W) (hb : Below W.heap.size W W') : SI q s pv ov W' :=
  ⟨blk_below hb h.k0, blk_below hb h.k1, blk_below hb h.k2, blk_below hb h.k3⟩
theorem SI.kept {q g : Nat} {s : Int × Int} {pv ov : Value} {W W' : World} (h : SI q s pv ov W) (hk : Kept g W W') (hg : q + 3 < g ∨ g < q) : SI q s pv ov W' :=
  ⟨(hk.old _ (lt_of_blk h.k0) (by omega)).trans h.k0, (hk.old _ (lt_of_blk h.k1) (by omega)).trans h.k1, (hk.old _ (lt_of_blk h.k2) (by omega)).trans h.k2, (hk.old _ (lt_of_blk h.k3) (by omega)).trans h.k3⟩

set_option maxRecDepth 100000 in
set_option maxHeartbeats 8000000 in
theorem at_any (s : Int × Int) (l : List (Int × Int)) (o : List Int) (hln : l.length ≤ 1000) (hol : o.length ≤ 1000) (ho : ∀ k ∈ o, 0 ≤ k ∧ k < (l.length : Int)) (j : Int) (hj : -1 ≤ j ∧ j ≤ o.length) (q : Nat) {pv ov : Value} (w : World) (hS : SI q s pv ov w) (h1 : Reads encP pv l w) (h2 : Reads encN ov o w) :
    Calls Try.prog 55 #[.int .i64 j, .pointer (some ⟨q + 2, 0, none⟩), .pointer (some ⟨q, 0, none⟩), .pointer (some ⟨q + 1, 0, none⟩)] w fun e w' => e = .returned (.agg #[.int .i64 (plAt s l o j).1, .int .i64 (plAt s l o j).2]) ∧ Below w.heap.size w w' := by
  obtain ⟨s1, s2⟩ := s
  have HS := Lib.hid hS
  obtain ⟨A, c, rfl, h1⟩ := h1
  obtain ⟨Ao, co, rfl, h2⟩ := h2
  obtain ⟨c0, c00, _, _⟩ := blk2 hS.k0
  have c1 := cell_of_blk hS.k1 0
  have c2 := cell_of_blk hS.k2 0
  simp at c1 c2
  have l0 := lt_of_blk hS.k0
  have l1 := lt_of_blk hS.k1
  have l2 := lt_of_blk hS.k2
  dsimp only at *
  clear hS
  by_cases hend : j < 0 ∨ j = o.length
  · have HE : Hid (plAt (s1, s2) l o j = (s1, s2)) := plAt_end _ _ _ _ hend
    by_cases hj0 : j < 0
    · clear hend
      go_enter Try.func55, Try.ntmps55
      go_wp2_with fail
      refine bodyPost_ret (v := .agg #[.int .i64 s1, .int .i64 s2]) (by unfold results; simp only [Try.results55]; go_simp) rfl ⟨by rw [HE.out], ?_⟩
      exact (Below.refl _ _).alloc (Nat.le_refl _) _
    · obtain rfl : j = o.length := by omega
      clear hend
      go_enter Try.func55, Try.ntmps55
      go_wp2_with fail
      refine bodyPost_ret (v := .agg #[.int .i64 s1, .int .i64 s2]) (by unfold results; simp only [Try.results55]; go_simp) rfl ⟨by rw [HE.out], ?_⟩
      exact (Below.refl _ _).alloc (Nat.le_refl _) _
  · obtain ⟨m, rfl⟩ := Int.eq_ofNat_of_zero_le (by omega : 0 ≤ j)
    have hm : m < o.length := by omega
    have HE := Lib.hid (plAt_mid (s1, s2) l o hm)
    obtain ⟨hx0, hx1⟩ := ho _ (List.getElem_mem hm)
    rcases h2 with rfl | ⟨go, rfl, hrow⟩
    · simp at hm
    have r2 := row_n hrow hm
    generalize o[m] = x at *
    obtain ⟨x, rfl⟩ := Int.eq_ofNat_of_zero_le hx0
    have hxl : x < l.length := by omega
    rcases h1 with rfl | ⟨gp, rfl, hrowp⟩
    · simp at hxl
    obtain ⟨q0, q1⟩ := row_pt hrowp hxl
    have HPN := Lib.hid (ptAt_nat l hxl)
    have hgo := hrow.1
    have hgp := hrowp.1
    clear hrow hrowp
    generalize l[x] = p at *
    obtain ⟨p1, p2⟩ := p
    dsimp only at q0 q1
    have n1 : ¬ ((m : Int) < 0) := by omega
    have n2 : ((m : Int) == (o.length : Int)) = false := beq_eq_false_iff_ne.mpr (by omega)
    have n3 : (m : Int) < (o.length : Int) := by omega
    go_enter Try.func55, Try.ntmps55
    go_upto_region 3 with (fail)
    have H0 : Hid (Below w.heap.size w (w.alloc (.cells #[.int .i64 0, .int .i64 0] 27)) ∧ (w.alloc (.cells #[.int .i64 0, .int .i64 0] 27)).heap[w.heap.size]? = some (.cells #[.int .i64 0, .int .i64 0] 27 (0, 0))) := ⟨(Below.refl _ _).alloc (Nat.le_refl _) _, blk_new w _ rfl⟩
    generalize w.alloc (.cells #[.int .i64 0, .int .i64 0] 27) = wx at *
    have HB := Lib.hid (And.intro hgo (And.intro hgp (And.intro l1 l2)))
    have HQ := Lib.hid (And.intro c1 (And.intro c2 (And.intro r2 (And.intro q0 q1))))
    clear hgo hgp l0 l1 l2 c0 c00 c1 c2 r2 q0 q1
    refine Rg.rgL (fun a b => Below a.heap.size a b)
      [(fun vs u => vs 0 = .slice (some ⟨gp, 0, none⟩) l.length c), (fun vs u => vs 1 = .slice (some ⟨go, 0, none⟩) o.length co), (fun vs u => vs 2 = .int .i64 m), (fun vs u => vs 3 = .pointer (some ⟨go, m, none⟩)), (fun vs u => vs 4 = .int .i64 x)]
      [[], [], [], [1, 2], [1, 2, 3]] [some 15, some 16, some 17, some 18, some 19, some 20, some 21, none] [] (fun _ _ => True) [[], [], [], [1, 2], [1, 2, 3], [0, 1, 2, 3, 4], [0, 1, 2, 3, 4, 5], [0, 1, 2, 3, 4, 5, 6]]
      (by kernel_rfl) (by decide) (by kernel_rfl) (by kernel_rfl) (by kernel_rfl) (by kernel_rfl) (by kernel_rfl) (fun _ => Below.refl _ _) (fun _ _ _ h k => h.ext k) (fun _ _ h => h.size) ?_ trivial ?_ ?_
    · intro t ht vs w w' h hE
      simp only [List.mem_cons, List.not_mem_nil, or_false] at ht
      rcases ht with rfl | rfl | rfl | rfl | rfl
      · exact h
      · exact h
      · exact h
      · exact h
      · exact h
    ·
      refine Rg.cons 0 1 rfl (Rg.plain rfl ?_) ?_
      · intro vs W n hn hI hG hT hF K hK
        simp only [Rg.putsD, List.getD_cons_zero, List.getD_cons_succ, Act.put, List.setIfInBounds_toArray, List.set_cons_zero, List.set_cons_succ] at hK ⊢
        clear hn
        clear hF hI
        have c1 := ((H0.out.1.drew.then_below hG H0.out.1.size).cell (p := ⟨q + 1, 0, none⟩) HB.out.2.2.1).trans HQ.out.1
        have H := Lib.hid hK
        clear hK hT
        go_simp
        exact H.out _ _ (Below.refl _ _) rfl (fun h => by cases h) trivial
      refine Rg.cons 1 2 rfl (Rg.plain rfl ?_) ?_
      · intro vs W n hn hI hG hT hF K hK
        simp only [Rg.putsD, List.getD_cons_zero, List.getD_cons_succ, Act.put, List.setIfInBounds_toArray, List.set_cons_zero, List.set_cons_succ] at hK ⊢
        clear hn
        clear hF hI
        have c1 := ((H0.out.1.drew.then_below hG H0.out.1.size).cell (p := ⟨q + 2, 0, none⟩) HB.out.2.2.2).trans HQ.out.2.1
        have H := Lib.hid hK
        clear hK hT
        go_simp
        exact H.out _ _ (Below.refl _ _) rfl (fun h => by cases h) trivial
      refine Rg.cons 2 3 rfl (Rg.plain rfl ?_) ?_
      · intro vs W n hn hI hG hT hF K hK
        simp only [Rg.putsD, List.getD_cons_zero, List.getD_cons_succ, Act.put, List.setIfInBounds_toArray, List.set_cons_zero, List.set_cons_succ] at hK ⊢
        clear hn
        clear hF hI
        have H := Lib.hid hK
        clear hK hT
        go_simp
        exact H.out _ _ (Below.refl _ _) rfl (fun h => by cases h) trivial
      refine Rg.cons 3 4 rfl (Rg.plain rfl ?_) ?_
      · intro vs W n hn hI hG hT hF K hK
        simp only [Rg.putsD, List.getD_cons_zero, List.getD_cons_succ, Act.put, List.setIfInBounds_toArray, List.set_cons_zero, List.set_cons_succ] at hK ⊢
        clear hn
        clear hF hI
        have t1 : vs 1 = .slice (some ⟨go, 0, none⟩) o.length co := hT 1 (by decide)
        have t2 : vs 2 = .int .i64 m := hT 2 (by decide)
        simp only [t1, t2] at hK
        have H := Lib.hid hK
        clear hK hT
        go_simp
        exact H.out _ _ (Below.refl _ _) rfl (fun h => by cases h) trivial
      refine Rg.cons 4 5 rfl (Rg.plain rfl ?_) ?_
      · intro vs W n hn hI hG hT hF K hK
        simp only [Rg.putsD, List.getD_cons_zero, List.getD_cons_succ, Act.put, List.setIfInBounds_toArray, List.set_cons_zero, List.set_cons_succ] at hK ⊢
        clear hn
        clear hF hI
        have t1 : vs 1 = .slice (some ⟨go, 0, none⟩) o.length co := hT 1 (by decide)
        have t2 : vs 2 = .int .i64 m := hT 2 (by decide)
        have t3 : vs 3 = .pointer (some ⟨go, m, none⟩) := hT 3 (by decide)
        have c1 := ((H0.out.1.drew.then_below hG H0.out.1.size).cell (p := ⟨go, m, none⟩) HB.out.1).trans HQ.out.2.2.1
        have hgl : go < W.heap.size := Nat.lt_of_lt_of_le HB.out.1 (Nat.le_trans H0.out.1.size hG.size)
        simp only [t1, t2, t3] at hK
        have H := Lib.hid hK
        clear hK hT
        go_simp
        exact H.out _ _ (Below.refl _ _) rfl (fun h => by cases h) trivial
      exact Rg.nil
    · intro vs W hG hI hT hF
      have t0 : vs 0 = .slice (some ⟨gp, 0, none⟩) l.length c := hT 0 (by decide)
      have t1 : vs 1 = .slice (some ⟨go, 0, none⟩) o.length co := hT 1 (by decide)
      have t2 : vs 2 = .int .i64 m := hT 2 (by decide)
      have t3 : vs 3 = .pointer (some ⟨go, m, none⟩) := hT 3 (by decide)
      have t4 : vs 4 = .int .i64 x := hT 4 (by decide)
      simp only [List.length_cons, List.length_nil, Nat.reduceAdd, List.range, List.range.loop, List.drop_succ_cons, List.drop_zero, Rg.putsD, List.getD_cons_zero, List.getD_cons_succ, Act.put, List.setIfInBounds_toArray, List.set_cons_zero, List.set_cons_succ, t0, t1, t2, t3, t4]
      clear hT t0 t1 t2 t3 t4
      have H1 : Hid (Below w.heap.size w W ∧ W.heap[w.heap.size]? = some (.cells #[.int .i64 0, .int .i64 0] 27 (0, 0))) := ⟨H0.out.1.drew.then_below hG H0.out.1.size, blk_below (a := wx.drew) hG H0.out.2⟩
      have q0 := (H1.out.1.cell (p := ⟨gp, x * 2, none⟩) HB.out.2.1).trans HQ.out.2.2.2.1
      have q1 := (H1.out.1.cell (p := ⟨gp, x * 2 + 1, none⟩) HB.out.2.1).trans HQ.out.2.2.2.2
      have hgl : gp < W.heap.size := Nat.lt_of_lt_of_le HB.out.2.1 H1.out.1.size
      obtain ⟨d0, d00, f0, f00⟩ := blk2 H1.out.2
      have hwl := lt_of_blk H1.out.2
      clear hF hI hG H0
      go_wp2_with fail
      have HK := Lib.hid (blk_set (i := 1) (blk_set (i := 0) H1.out.2 (.int .i64 p1)) (.int .i64 p2))
      refine bodyPost_ret (v := .agg #[.int .i64 p1, .int .i64 p2]) (by unfold results; simp only [Try.results55]; go_simp) rfl ⟨by rw [HE.out, HPN.out], ?_⟩
      exact (H1.out.1.setCell (Nat.le_refl _) _).setCell (Nat.le_refl _) _
end Go.Proofs.Ytbkbjljkfhahbaa
