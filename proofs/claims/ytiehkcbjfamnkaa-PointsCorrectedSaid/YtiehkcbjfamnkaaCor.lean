/-
  The walks of Corrected and Stretch, the program's and the reference's.
-/
import Derived.Test.YtiehkcbjfamnkaaSim
namespace Go.Proofs.Ytiehkcbjfamnkaa
open Go.RowKit

theorem SimAt.below {w w' : World} {n0 n1 m0 m1 : Int × Int} {v : Value} (h : SimAt w n0 n1 m0 m1 v) (hb : Below w.heap.size w w') : SimAt w' n0 n1 m0 m1 v := by
  obtain ⟨b7, b2, b3, b8, e, k7, k2, k3, k8⟩ := h
  exact ⟨b7, b2, b3, b8, e, blk_below hb k7, blk_below hb k2, blk_below hb k3, blk_below hb k8⟩

theorem ok_pt {p : Int × Int} (h : ok p = true) : PtC p := by
  simp only [ok, Bool.and_eq_true] at h
  exact ⟨crd_spec h.1, crd_spec h.2⟩
theorem fid_ok {n0 n1 m0 m1 : Int × Int} {l : List (Int × Int)} (h : fidErr n0 n1 m0 m1 l = 0) : PtC n0 ∧ PtC n1 ∧ PtC m0 ∧ PtC m1 ∧ (∀ p ∈ l, PtC p) ∧ n0 ≠ n1 ∧ m0 ≠ m1 := by
  unfold fidErr at h
  split at h
  · rename_i ha
    split at h
    · omega
    · rename_i hn
      rw [List.all_eq_true] at ha
      exact ⟨ok_pt (ha _ (by simp)), ok_pt (ha _ (by simp)), ok_pt (ha _ (by simp)), ok_pt (ha _ (by simp)), fun p hp => ok_pt (ha p (by simp [hp])), fun e => hn (.inl e), fun e => hn (.inr e)⟩
  · omega

/-- Where a point comes to. -/
def corX (n0 n1 m0 m1 p : Int × Int) : Int :=
  m0.1 + near (((m1.1 - m0.1) * (n1.1 - n0.1) - (m1.2 - m0.2) * -(n1.2 - n0.2)) * (p.1 - n0.1) - ((m1.1 - m0.1) * -(n1.2 - n0.2) + (m1.2 - m0.2) * (n1.1 - n0.1)) * (p.2 - n0.2)) ((n1.1 - n0.1) * (n1.1 - n0.1) + (n1.2 - n0.2) * (n1.2 - n0.2))
def corY (n0 n1 m0 m1 p : Int × Int) : Int :=
  m0.2 + near (((m1.1 - m0.1) * (n1.1 - n0.1) - (m1.2 - m0.2) * -(n1.2 - n0.2)) * (p.2 - n0.2) + ((m1.1 - m0.1) * -(n1.2 - n0.2) + (m1.2 - m0.2) * (n1.1 - n0.1)) * (p.1 - n0.1)) ((n1.1 - n0.1) * (n1.1 - n0.1) + (n1.2 - n0.2) * (n1.2 - n0.2))

/-- The turn's parts are in range. -/
theorem turn_bd {n0 n1 m0 m1 : Int × Int} (h0 : PtC n0) (h1 : PtC n1) (h2 : PtC m0) (h3 : PtC m1) :
    (-2000000000000 ≤ (m1.1 - m0.1) * (n1.1 - n0.1) - (m1.2 - m0.2) * -(n1.2 - n0.2) ∧ (m1.1 - m0.1) * (n1.1 - n0.1) - (m1.2 - m0.2) * -(n1.2 - n0.2) ≤ 2000000000000) ∧
    (-2000000000000 ≤ (m1.1 - m0.1) * -(n1.2 - n0.2) + (m1.2 - m0.2) * (n1.1 - n0.1) ∧ (m1.1 - m0.1) * -(n1.2 - n0.2) + (m1.2 - m0.2) * (n1.1 - n0.1) ≤ 2000000000000) := by
  obtain ⟨⟨_, _⟩, _, _⟩ := h0; obtain ⟨⟨_, _⟩, _, _⟩ := h1; obtain ⟨⟨_, _⟩, _, _⟩ := h2; obtain ⟨⟨_, _⟩, _, _⟩ := h3
  have p1 := mul_bd (x := m1.1 - m0.1) (y := n1.1 - n0.1) (A := 1000000) (B := 1000000) (by omega) (by omega) (by omega) (by omega)
  have p2 := mul_bd (x := m1.2 - m0.2) (y := -(n1.2 - n0.2)) (A := 1000000) (B := 1000000) (by omega) (by omega) (by omega) (by omega)
  have p3 := mul_bd (x := m1.1 - m0.1) (y := -(n1.2 - n0.2)) (A := 1000000) (B := 1000000) (by omega) (by omega) (by omega) (by omega)
  have p4 := mul_bd (x := m1.2 - m0.2) (y := n1.1 - n0.1) (A := 1000000) (B := 1000000) (by omega) (by omega) (by omega) (by omega)
  omega
theorem sq_bd2 {n0 n1 : Int × Int} (h0 : PtC n0) (h1 : PtC n1) (hne : n0 ≠ n1) :
    1 ≤ (n1.1 - n0.1) * (n1.1 - n0.1) + (n1.2 - n0.2) * (n1.2 - n0.2) ∧ (n1.1 - n0.1) * (n1.1 - n0.1) + (n1.2 - n0.2) * (n1.2 - n0.2) ≤ 2000000000000 := by
  refine ⟨sq_pos hne, ?_⟩
  obtain ⟨⟨_, _⟩, _, _⟩ := h0; obtain ⟨⟨_, _⟩, _, _⟩ := h1
  have a := sq_bd (x := n1.1 - n0.1) (by omega) (by omega)
  have b := sq_bd (x := n1.2 - n0.2) (by omega) (by omega)
  omega

set_option maxRecDepth 100000 in
set_option maxHeartbeats 4000000 in
theorem corrected_ok (n0 n1 m0 m1 p : Int × Int) (hf : fidErr n0 n1 m0 m1 [p] = 0) (w : World) :
    Calls Try.prog 47 #[two n0 n1, two m0 m1, .agg #[.int .i64 p.1, .int .i64 p.2]] w fun e w' =>
      e = .returned (.tuple #[.agg #[.int .i64 (corX n0 n1 m0 m1 p), .int .i64 (corY n0 n1 m0 m1 p)], .int .i64 0]) ∧ Below w.heap.size w w' := by
  obtain ⟨h0, h1, h2, h3, hp, hne, _⟩ := fid_ok hf
  have hp := hp p (by simp)
  obtain ⟨tr, ti⟩ := turn_bd h0 h1 h2 h3
  have tq := sq_bd2 h0 h1 hne
  have cs := fun W => similarity_any n0 n1 m0 m1 h0 h1 h2 h3 W
  have c1 := fun (b7 b2 b3 b8 : Nat) (W : World) k7 k2 k3 k8 => show Calls Try.prog 113 #[.agg #[.int .i64 p.1, .int .i64 p.2], .pointer (some ⟨b7, 0, none⟩), .pointer (some ⟨b2, 0, none⟩), .pointer (some ⟨b3, 0, none⟩), .pointer (some ⟨b8, 0, none⟩)] W fun e w' =>
      e = .returned (.agg #[.int .i64 (corX n0 n1 m0 m1 p), .int .i64 (corY n0 n1 m0 m1 p)]) ∧ Below W.heap.size W w' from sim1_any p n0 n1 m0 m1 _ _ _ hp h0 h2 tr ti tq b7 b2 b3 b8 W k7 k2 k3 k8
  generalize corX n0 n1 m0 m1 p = X at *
  generalize corY n0 n1 m0 m1 p = Y at *
  have cf := fun (g : Nat) (W : World) h => checkFid_any n0 n1 m0 m1 (some ⟨g, 0, none⟩) 1 [p] (by simp) W h
  rw [hf] at cf
  have CS := Lib.hid cs
  have C1 := Lib.hid c1
  have CF := Lib.hid cf
  clear cs c1 cf tr ti tq hne hp h0 h1 h2 h3 hf
  obtain ⟨n0x, n0y⟩ := n0; obtain ⟨n1x, n1y⟩ := n1; obtain ⟨m0x, m0y⟩ := m0; obtain ⟨m1x, m1y⟩ := m1; obtain ⟨px, py⟩ := p
  unfold two at *
  simp only at *
  go_enter Try.func47, Try.ntmps47
  go_wp2_with fail
  refine (CF.out _ _ (.inr ⟨_, rfl, ?_, ?_⟩)).mono ?_
  · simp
  · intro j u hu
    rw [addr_new, cell_of_blk (blk_new _ _ (by simp))]
    simpa [flat] using hu
  rintro e w1 ⟨rfl, b1⟩
  have k3 := blk_below b1 (blk_alloc (blk_alloc (blk_alloc (blk_alloc (blk_new w _ rfl) _) _) _) _)
  have k4 := blk_below b1 (blk_alloc (blk_alloc (blk_alloc (blk_new (g := w.heap.size + 1) (w.alloc _) _ (by simp)) _) _) _)
  have k5 := blk_below b1 (blk_alloc (blk_alloc (blk_new (g := w.heap.size + 1 + 1) ((w.alloc _).alloc _) _ (by simp)) _) _)
  have k6 := blk_below b1 (blk_alloc (blk_new (g := w.heap.size + 1 + 1 + 1) (((w.alloc _).alloc _).alloc _) _ (by simp)) _)
  have hb := (((((Below.refl w.heap.size w).alloc (Nat.le_refl _) _).alloc (by simp) _).alloc (by simp; omega) _).alloc (by simp; omega) _ |>.alloc (by simp; omega) _).ext b1
  have K3 := Lib.hid k3
  have K4 := Lib.hid k4
  have K5 := Lib.hid k5
  have K6 := Lib.hid k6
  have HB := Lib.hid hb
  clear k3 k4 k5 k6 hb b1
  go_wp2_with fail
  refine Rg.rgL (fun a b => Below a.heap.size a b)
    [(fun vs u => vs 0 = .agg #[.int .i64 n0x, .int .i64 n0y, .int .i64 n1x, .int .i64 n1y]), (fun vs u => vs 1 = .agg #[.int .i64 m0x, .int .i64 m0y, .int .i64 m1x, .int .i64 m1y]), (fun vs u => SimAt u (n0x, n0y) (n1x, n1y) (m0x, m0y) (m1x, m1y) (vs 2)), (fun vs u => vs 3 = .agg #[.int .i64 px, .int .i64 py])]
    [[], [], [0, 1], []] [some 18, some 19, some 20, some 21, some 22, none, some 7] [] (fun _ _ => True) [[], [], [0, 1], [], [0, 1, 2, 3], [0, 1, 2, 3, 4], [0, 1, 2, 3, 4, 5]]
    (by kernel_rfl) (by decide) (by kernel_rfl) (by kernel_rfl) (by kernel_rfl) (by kernel_rfl) (by kernel_rfl) (fun _ => Below.refl _ _) (fun _ _ _ h k => h.ext k) (fun _ _ h => h.size) ?_ trivial ?_ ?_
  · intro t ht vs w w' h hE
    simp only [List.mem_cons, List.not_mem_nil, or_false] at ht
    rcases ht with rfl | rfl | rfl | rfl
    · exact h
    · exact h
    · exact h.below hE
    · exact h
  ·
    refine Rg.cons 0 1 rfl (Rg.plain rfl ?_) ?_
    · intro vs W n hn hI hG hT hF K hK
      simp only [Rg.putsD, List.getD_cons_zero, List.getD_cons_succ, Act.put, List.setIfInBounds_toArray, List.set_cons_zero, List.set_cons_succ] at hK ⊢
      clear hn
      clear hF hI
      obtain ⟨c0, c1, c2, c3⟩ := blk4 (blk_below hG K3.out)
      have H := Lib.hid hK
      clear hK hT
      go_simp
      exact H.out _ _ (Below.refl _ _) rfl (fun h => by cases h) trivial
    refine Rg.cons 1 2 rfl (Rg.plain rfl ?_) ?_
    · intro vs W n hn hI hG hT hF K hK
      simp only [Rg.putsD, List.getD_cons_zero, List.getD_cons_succ, Act.put, List.setIfInBounds_toArray, List.set_cons_zero, List.set_cons_succ] at hK ⊢
      clear hn
      clear hF hI
      obtain ⟨c0, c1, c2, c3⟩ := blk4 (blk_below hG K4.out)
      have H := Lib.hid hK
      clear hK hT
      go_simp
      exact H.out _ _ (Below.refl _ _) rfl (fun h => by cases h) trivial
    refine Rg.cons 2 3 rfl (Rg.plain rfl ?_) ?_
    · intro vs W n hn hI hG hT hF K hK
      simp only [Rg.putsD, List.getD_cons_zero, List.getD_cons_succ, Act.put, List.setIfInBounds_toArray, List.set_cons_zero, List.set_cons_succ] at hK ⊢
      clear hn
      clear hF hI
      have t0 : vs 0 = .agg #[.int .i64 n0x, .int .i64 n0y, .int .i64 n1x, .int .i64 n1y] := hT 0 (by decide)
      have t1 : vs 1 = .agg #[.int .i64 m0x, .int .i64 m0y, .int .i64 m1x, .int .i64 m1y] := hT 1 (by decide)
      simp only [t0, t1] at hK
      have H := Lib.hid hK
      clear hK hT
      go_simp
      refine (CS.out _).mono ?_
      rintro e w1 ⟨v, rfl, hv, b1⟩
      exact H.out _ _ b1 hv (fun h => by cases h) trivial
    refine Rg.cons 3 4 rfl (Rg.plain rfl ?_) ?_
    · intro vs W n hn hI hG hT hF K hK
      simp only [Rg.putsD, List.getD_cons_zero, List.getD_cons_succ, Act.put, List.setIfInBounds_toArray, List.set_cons_zero, List.set_cons_succ] at hK ⊢
      clear hn
      clear hF hI
      obtain ⟨c0, c1, _, _⟩ := blk2 (blk_below hG K5.out)
      have H := Lib.hid hK
      clear hK hT
      go_simp
      exact H.out _ _ (Below.refl _ _) rfl (fun h => by cases h) trivial
    exact Rg.nil
  · intro vs W hG hI hT hF
    have t0 : vs 0 = .agg #[.int .i64 n0x, .int .i64 n0y, .int .i64 n1x, .int .i64 n1y] := hT 0 (by decide)
    have t1 : vs 1 = .agg #[.int .i64 m0x, .int .i64 m0y, .int .i64 m1x, .int .i64 m1y] := hT 1 (by decide)
    have t2 : SimAt W (n0x, n0y) (n1x, n1y) (m0x, m0y) (m1x, m1y) (vs 2) := hT 2 (by decide)
    have t3 : vs 3 = .agg #[.int .i64 px, .int .i64 py] := hT 3 (by decide)
    simp only [List.length_cons, List.length_nil, Nat.reduceAdd, List.range, List.range.loop, List.drop_succ_cons, List.drop_zero, Rg.putsD, List.getD_cons_zero, List.getD_cons_succ, Act.put, List.setIfInBounds_toArray, List.set_cons_zero, List.set_cons_succ, t0, t1, t3]
    clear hT t0 t1 t3
    have k6 := blk_below hG K6.out
    have hb := HB.out.drew.ext hG
    obtain ⟨b7, b2, b3, b8, e2, k7, k2, k3, k8⟩ := t2
    have K7 := Lib.hid k7
    have K2 := Lib.hid k2
    have K3 := Lib.hid k3
    have K8 := Lib.hid k8
    have KK := Lib.hid k6
    have HBB := Lib.hid hb
    clear k7 k2 k3 k8 k6 hb hG hI hF
    simp only [e2]
    clear e2
    go_wp2_with fail
    refine (C1.out b7 b2 b3 b8 _ K7.out K2.out K3.out K8.out).mono ?_
    rintro e w2 ⟨rfl, b2⟩
    obtain ⟨c0, c1, f0, f1⟩ := blk2 (blk_below b2 KK.out)
    go_wp2_with fail
    refine bodyPost_ret (v := .tuple #[.agg #[.int .i64 X, .int .i64 Y], .int .i64 0]) (by unfold results; simp only [Try.results47]; go_simp) rfl ⟨rfl, ?_⟩
    exact ((HBB.out.ext b2).setCell (by simp; omega) _).setCell (by simp; omega) _

theorem fid_vals (n0 n1 m0 m1 : Int × Int) (l : List (Int × Int)) : fidErr n0 n1 m0 m1 l = 0 ∨ fidErr n0 n1 m0 m1 l = 1 ∨ fidErr n0 n1 m0 m1 l = 16 := by
  unfold fidErr
  split
  · split <;> simp
  · simp

set_option maxRecDepth 100000 in
set_option maxHeartbeats 4000000 in
theorem corrected_bad (n0 n1 m0 m1 p : Int × Int) (k : Int) (hk : k ≠ 0) (hf : fidErr n0 n1 m0 m1 [p] = k) (w : World) :
    Calls Try.prog 47 #[two n0 n1, two m0 m1, .agg #[.int .i64 p.1, .int .i64 p.2]] w fun e w' =>
      e = .returned (.tuple #[.agg #[.int .i64 0, .int .i64 0], .int .i64 k]) ∧ Below w.heap.size w w' := by
  have cf := fun (g : Nat) (W : World) h => checkFid_any n0 n1 m0 m1 (some ⟨g, 0, none⟩) 1 [p] (by simp) W h
  rw [hf] at cf
  have CF := Lib.hid cf
  have hkb : (k == 0) = false := by simpa using hk
  have hkn : (k != 0) = true := by simpa using hk
  clear cf hf hk
  obtain ⟨n0x, n0y⟩ := n0; obtain ⟨n1x, n1y⟩ := n1; obtain ⟨m0x, m0y⟩ := m0; obtain ⟨m1x, m1y⟩ := m1; obtain ⟨px, py⟩ := p
  unfold two at *
  simp only at *
  go_enter Try.func47, Try.ntmps47
  go_wp2_with fail
  refine (CF.out _ _ (.inr ⟨_, rfl, ?_, ?_⟩)).mono ?_
  · simp
  · intro j u hu
    rw [addr_new, cell_of_blk (blk_new _ _ (by simp))]
    simpa [flat] using hu
  rintro e w1 ⟨rfl, b1⟩
  have k6 := blk_below b1 (blk_alloc (blk_new (g := w.heap.size + 1 + 1 + 1) (((w.alloc _).alloc _).alloc _) _ (by simp)) _)
  have hb := (((((Below.refl w.heap.size w).alloc (Nat.le_refl _) _).alloc (by simp) _).alloc (by simp; omega) _).alloc (by simp; omega) _ |>.alloc (by simp; omega) _).ext b1
  obtain ⟨c0, c1, f0, f1⟩ := blk2 k6
  have HB := Lib.hid hb
  clear hb b1 k6
  go_wp2_with fail
  refine bodyPost_ret (v := .tuple #[.agg #[.int .i64 0, .int .i64 0], .int .i64 k]) (by unfold results; simp only [Try.results47]; go_simp) rfl ⟨rfl, ?_⟩
  exact (HB.out.setCell (by simp; omega) _).setCell (by simp; omega) _

set_option maxRecDepth 100000 in
set_option maxHeartbeats 4000000 in
theorem stretch_bad (n0 n1 m0 m1 : Int × Int) (k : Int) (hk : k ≠ 0) (hf : fidErr n0 n1 m0 m1 [] = k) (w : World) :
    Calls Try.prog 48 #[two n0 n1, two m0 m1] w fun e w' =>
      e = .returned (.tuple #[.agg #[.int .i64 0, .int .i64 0], .int .i64 k]) ∧ Below w.heap.size w w' := by
  have cf := fun (W : World) => checkFid_any n0 n1 m0 m1 none 0 [] (by simp) W (.inl ⟨rfl, rfl, rfl⟩)
  rw [hf] at cf
  have CF := Lib.hid cf
  have hkb : (k == 0) = false := by simpa using hk
  have hkn : (k != 0) = true := by simpa using hk
  clear cf hf hk
  obtain ⟨n0x, n0y⟩ := n0; obtain ⟨n1x, n1y⟩ := n1; obtain ⟨m0x, m0y⟩ := m0; obtain ⟨m1x, m1y⟩ := m1
  unfold two at *
  simp only at *
  go_enter Try.func48, Try.ntmps48
  go_wp2_with fail
  refine (CF.out _).mono ?_
  rintro e w1 ⟨rfl, b1⟩
  have k6 := blk_below b1 (blk_new (g := w.heap.size + 1 + 1) ((w.alloc _).alloc _) _ (by simp))
  have hb := ((((Below.refl w.heap.size w).alloc (Nat.le_refl _) _).alloc (by simp) _).alloc (by simp; omega) _).ext b1
  obtain ⟨c0, c1, f0, f1⟩ := blk2 k6
  have HB := Lib.hid hb
  clear hb b1 k6
  go_wp2_with fail
  refine bodyPost_ret (v := .tuple #[.agg #[.int .i64 0, .int .i64 0], .int .i64 k]) (by unfold results; simp only [Try.results48]; go_simp) rfl ⟨rfl, ?_⟩
  exact (HB.out.setCell (by simp; omega) _).setCell (by simp; omega) _
end Go.Proofs.Ytiehkcbjfamnkaa
