/-
  The walk of the law ProductTexts.
-/
import Derived.Test.YtalconjnjaffkaaGreatDoorTxY
import Derived.Test.YtalconjnjaffkaaGreatDoorTxP
import Derived.Test.YtalconjnjaffkaaGreatDoorPaneled
import Derived.Deep.DeepCutAuto
namespace Go.Proofs.YtalconjnjaffkaaGreatDoor
open Go.RowKit
set_option linter.unusedSimpArgs false
set_option linter.unusedVariables false

theorem kept_belowL {sb : Nat} {w w' : World} {o : Obj} (hs : sb = w.heap.size) (h : Kept sb (w.alloc o) w') : Below w.heap.size w w' := by
  subst hs
  obtain ⟨a, b, c⟩ := h.outer
  refine ⟨a, b, c, by have := h.more; simp at this; omega, fun k hk => ?_⟩
  exact (h.old k (by simp; omega) (by omega)).trans (Below.heap_alloc w o k hk)
theorem PlAt.kept {sb : Nat} {w w' : World} {A : Option Addr} {l : List Pl} (h : PlAt w A l) (hk : Kept sb w w') (hA : ∀ g : Nat, A = some ⟨g, 0, none⟩ → g ≠ sb) : PlAt w' A l := by
  rcases h with h | ⟨g, e, hg, h⟩
  · exact .inl h
  · exact .inr ⟨g, e, Nat.lt_of_lt_of_le hg hk.more, fun j u hu => (hk.cell (p := ⟨g, j, none⟩) hg (hA g e)).trans (h j u hu)⟩
/-- The two products in their blocks. -/
structure L5 (w : World) (b1 b2 : Nat) (px py : Array Value) (Ax : Option Addr) (x : List Pl) (Ay : Option Addr) (y : List Pl) (W : World) : Prop where
  below : Below w.heap.size w W
  kx : W.heap[b1]? = some (.cells px 44 (0, 0))
  ky : W.heap[b2]? = some (.cells py 44 (0, 0))
  ax : PlAt W Ax x
  ay : PlAt W Ay y
theorem L5.then_ {w : World} {b1 b2 : Nat} {px py : Array Value} {Ax : Option Addr} {x : List Pl} {Ay : Option Addr} {y : List Pl} {W W' : World} (h : L5 w b1 b2 px py Ax x Ay y W) (hb : Below W.heap.size W W') : L5 w b1 b2 px py Ax x Ay y W' :=
  ⟨h.below.then_below hb h.below.size, blk_below hb h.kx, blk_below hb h.ky, h.ax.below hb, h.ay.below hb⟩
/-- Three lists of strings that read. -/
def S3 (u v z : Value) (l1 l2 l3 : List ByteArray) (W : World) : Prop := Reads encS u l1 W ∧ Reads encS v l2 W ∧ Reads encS z l3 W
theorem S3.then_ {u v z : Value} {l1 l2 l3 : List ByteArray} {W W' : World} (h : S3 u v z l1 l2 l3 W) (hb : Below W.heap.size W W') : S3 u v z l1 l2 l3 W' := ⟨h.1.below hb, h.2.1.below hb, h.2.2.below hb⟩
theorem S3.of {B : Nat} {u v z : Value} {l1 l2 l3 : List ByteArray} {W : World} (h : Rows3 B u v z l1 l2 l3 W) : S3 u v z l1 l2 l3 W := by
  obtain ⟨h1, h2, h3, _, _, _⟩ := h
  rw [← flatS_map] at h1 h2 h3
  exact ⟨reads_own h1, reads_own h2, reads_own h3⟩
theorem rdOut_len (T : ByteArray) : (rdOut T).1.pls.length ≤ 2000000 := by
  unfold rdOut
  split
  · exact Nat.zero_le _
  · split
    · exact Nat.zero_le _
    · split
      · exact Nat.zero_le _
      · split
        · rename_i h
          have := (prodErr_fit h).len
          show _ ≤ _
          simp only
          omega
        · exact Nat.zero_le _

set_option maxRecDepth 100000 in
set_option maxHeartbeats 8000000 in
theorem law5_any (A0 : Option Addr) (n c0 : Nat) (w : World) (hc : n ≤ c0) (hm : c0 ≤ 9223372036854775807) (hA : IntsAt w A0 n w.heap.size) (hGl : Gl w) (hw : gLow ≤ w.heap.size) :
    Calls Tryz.prog 4 #[.slice A0 n c0] w fun e w' => e = .returned (.bool true) ∧ Below w.heap.size w w' := by
  have hs0 : IsStream (w.alloc (.cells #[.slice A0 n c0, .int .i64 0] 25)) w.heap.size 0 := by
    refine ⟨A0, n, c0, 0, hc, hm, Nat.le_refl _, blk_new w _ rfl, fun hn => ?_⟩
    obtain ⟨ad, e, h1, h2, h3⟩ := hA hn
    refine ⟨ad, e, by simp; omega, h2, fun k hk => ?_⟩
    obtain ⟨x, hx⟩ := h3 k hk
    exact ⟨x, ((((Below.refl w.heap.size w).alloc (Nat.le_refl _) _).cell (by rw [addr_block]; exact h1))).trans hx⟩
  obtain ⟨wo, hwo⟩ : ∃ wo, wo = w.alloc (.cells #[.slice A0 n c0, .int .i64 0] 25) := ⟨_, rfl⟩
  have HWO : Hid (Below w.heap.size w wo ∧ w.heap.size < wo.heap.size) := ⟨by rw [hwo]; exact (Below.refl _ _).alloc (Nat.le_refl _) _, by rw [hwo]; simp⟩
  have HW := Lib.hid hwo
  rw [← hwo] at hs0
  clear hwo
  have H0 := Lib.hid (Took.refl hs0)
  have hwz := HWO.out.2
  have HGo := Lib.hid (hGl.below HWO.out.1 hw)
  go_enter Tryz.func4, Tryz.ntmps4
  go_upto_region 2 with (fail)
  rw [← HW.out]
  have CA := Lib.hid (aproduct_any w.heap.size 0 wo (by omega) H0.out.1)
  go_wp2_with fail
  refine CA.out.mono ?_
  rintro e w1 ⟨kx, Wx, Hx, v1, x, rfl, hlx, how1, t1⟩
  obtain ⟨Ax, cx, rfl, hpx, hcx⟩ := pl_own2 how1
  have HAx : Hid (∀ g : Nat, Ax = some ⟨g, 0, none⟩ → g ≠ w.heap.size) := fun g e => by
    have := own_row how1 g (by rw [e]; rfl)
    omega
  have H1 : Hid (Took w.heap.size 200 wo w1 ∧ PlAt w1 Ax x) := ⟨t1.more (by omega), hpx⟩
  have hz1 := H1.out.1.size
  clear t1 CA how1 hpx
  have CB := Lib.hid (aproduct_any w.heap.size 200 w1 (by omega) H1.out.1.1)
  go_wp2_with fail
  refine CB.out.mono ?_
  rintro e w2 ⟨ky, Wy, Hy, v2, y, rfl, hly, how2, t2⟩
  obtain ⟨Ay, cy, rfl, hpy, hcy⟩ := pl_own2 how2
  have HAy : Hid (∀ g : Nat, Ay = some ⟨g, 0, none⟩ → g ≠ w.heap.size) := fun g e => by
    have := own_row how2 g (by rw [e]; rfl)
    omega
  have H2 : Hid (Took w.heap.size 400 wo w2 ∧ PlAt w2 Ax x ∧ PlAt w2 Ay y) := ⟨(H1.out.1.trans t2).more (by omega), H1.out.2.kept t2.2 HAx.out, hpy⟩
  have hz2 := H2.out.1.size
  clear t2 CB how2 hpy H1
  have CT := Lib.hid (prodText_any w.heap.size 400 w2 (by omega) H2.out.1.1 (HGo.out.kept H2.out.1.2 hw (by omega)) hw)
  go_wp2_with fail
  refine CT.out.mono ?_
  rintro e w3 ⟨T, rfl, hT, t3⟩
  have hk3 : Kept w.heap.size wo w3 := H2.out.1.2.then_ t3.2
  rw [HW.out] at hk3
  have H3 : Hid (Below w.heap.size w w3 ∧ PlAt w3 Ax x ∧ PlAt w3 Ay y) := ⟨kept_belowL rfl hk3, H2.out.2.1.kept t3.2 HAx.out, H2.out.2.2.kept t3.2 HAy.out⟩
  have hz3 := H3.out.1.size
  clear t3 CT hk3 H2 HAx HAy HGo hz1 hz2 H0 HW HWO hwz hs0 hA
  go_upto_region 3 with (fail)
  have H4 : Hid (L5 w w3.heap.size (w3.heap.size + 1) #[.string kx, .int .i64 Wx, .int .i64 Hx, .slice Ax x.length cx] #[.string ky, .int .i64 Wy, .int .i64 Hy, .slice Ay y.length cy] Ax x Ay y ((w3.alloc (.cells #[.string kx, .int .i64 Wx, .int .i64 Hx, .slice Ax x.length cx] 44)).alloc (.cells #[.string ky, .int .i64 Wy, .int .i64 Hy, .slice Ay y.length cy] 44))) :=
    ⟨(H3.out.1.alloc hz3 _).alloc (by simp; omega) _, blk_alloc (blk_new w3 _ rfl) _, blk_new _ _ (by simp), (H3.out.2.1.below ((Below.refl _ _).alloc (Nat.le_refl _) _)).below ((Below.refl _ _).alloc (Nat.le_refl _) _), (H3.out.2.2.below ((Below.refl _ _).alloc (Nat.le_refl _) _)).below ((Below.refl _ _).alloc (Nat.le_refl _) _)⟩
  generalize (w3.alloc (.cells #[.string kx, .int .i64 Wx, .int .i64 Hx, .slice Ax x.length cx] 44)).alloc (.cells #[.string ky, .int .i64 Wy, .int .i64 Hy, .slice Ay y.length cy] 44) = w4 at *
  obtain ⟨p0, p1, p2, p3⟩ := blk4 H4.out.kx
  have hpl := lt_of_blk H4.out.kx
  obtain ⟨r0, r1, r2, r3⟩ := blk4 H4.out.ky
  have hrl := lt_of_blk H4.out.ky
  have CC := Lib.hid (pchanged_any kx Wx Hx Ax cx x hcx (by omega) ky Wy Hy Ay cy y hcy (by omega) w4 H4.out.ax H4.out.ay)
  have CTx := Lib.hid (fun (u : World) (h : L5 w w3.heap.size (w3.heap.size + 1) #[.string kx, .int .i64 Wx, .int .i64 Hx, .slice Ax x.length cx] #[.string ky, .int .i64 Wy, .int .i64 Hy, .slice Ay y.length cy] Ax x Ay y u) => ptext_any kx Wx Hx Ax cx x (by omega) u h.ax (hGl.below h.below hw) (Nat.le_trans hw h.below.size))
  have CFx := Lib.hid (fun (u : World) (h : PlAt u Ax x) => productFault_any kx Wx Hx Ax cx x (by omega) u h)
  have CFy := Lib.hid (fun (u : World) (h : PlAt u Ay y) => productFault_any ky Wy Hy Ay cy y (by omega) u h)
  have CPL := Lib.hid (fun (h0 : prodErr kx Wx Hx x = 0) (u : World) (h : L5 w w3.heap.size (w3.heap.size + 1) #[.string kx, .int .i64 Wx, .int .i64 Hx, .slice Ax x.length cx] #[.string ky, .int .i64 Wy, .int .i64 Hy, .slice Ay y.length cy] Ax x Ay y u) => plines_any kx Wx Hx Ax cx x (prodErr_fit h0) u h.ax (hGl.below h.below hw) (Nat.le_trans hw h.below.size))
  have CCP := Lib.hid (fun (u : World) (h : L5 w w3.heap.size (w3.heap.size + 1) #[.string kx, .int .i64 Wx, .int .i64 Hx, .slice Ax x.length cx] #[.string ky, .int .i64 Wy, .int .i64 Hy, .slice Ay y.length cy] Ax x Ay y u) => changedRef_any kx Wx Hx Ax cx x (by omega) ky Wy Hy Ay cy y (by omega) u h.ax h.ay)
  have CRD := Lib.hid (fun (u : World) (h : Below w.heap.size w u) => read_any T (by omega) u (hGl.below h hw) (Nat.le_trans hw h.size))
  have CRR := Lib.hid (fun (u : World) (h : Below w.heap.size w u) => prodRead_any T (by omega) u (hGl.below h hw) (Nat.le_trans hw h.size))
  have hlen := rdOut_len T
  have HE0 : Hid (errsL [prodErr kx Wx Hx x, prodErr ky Wy Hy y] = 0 → prodErr kx Wx Hx x = 0) := fun h => by
    unfold errsL at h
    split at h
    · assumption
    · rename_i h2; exact absurd h h2
  have HLN := Lib.hid (fun (u : World) (g c : Nat) (h : LineAt u g ([prodErr kx Wx Hx x, prodErr ky Wy Hy y].map (Value.int .i64))) => errs_any [prodErr kx Wx Hx x, prodErr ky Wy Hy y] (by simp) g c u h)
  simp only [List.map_cons, List.map_nil, List.length_cons, List.length_nil, Nat.zero_add, Nat.reduceAdd] at HLN
  generalize prodErr kx Wx Hx x = E1 at *
  generalize prodErr ky Wy Hy y = E2 at *
  generalize errsL [E1, E2] = EE at *
  have HL123 : Hid (∃ L1 L2 L3, (if EE = 0 then onlyIn x y else []) = L1 ∧ (if EE = 0 then onlyIn y x else []) = L2 ∧ (if EE = 0 then differ x y else []) = L3) := ⟨_, _, _, rfl, rfl, rfl⟩
  obtain ⟨L1, L2, L3, hL1, hL2, hL3⟩ := HL123.out
  rw [hL1, hL2, hL3] at CC
  have HL := Lib.hid (And.intro hL1 (And.intro hL2 hL3))
  obtain ⟨TX, hTX⟩ : ∃ TX, (if E1 = 0 then textB kx Wx Hx x else dS) = TX := ⟨_, rfl⟩
  rw [hTX] at CTx
  have HTX := Lib.hid hTX
  have hb1 : L1.length ≤ 5 := by
    rw [← hL1]; split
    · exact Nat.le_trans (only_len x y) hlx
    · simp
  have hb2 : L2.length ≤ 5 := by
    rw [← hL2]; split
    · exact Nat.le_trans (only_len y x) hly
    · simp
  have hb3 : L3.length ≤ 5 := by
    rw [← hL3]; split
    · exact Nat.le_trans (differ_len x y) hlx
    · simp
  clear hL1 hL2 hL3 HL123 hTX H3
  go_wp2_with fail
  refine CC.out.mono ?_
  rintro e w5 ⟨u1, u2, u3, rfl, b5, rr5⟩
  have H5 := Lib.hid (And.intro (H4.out.then_ b5) (S3.of rr5))
  clear b5 rr5 H4 CC p0 p1 p2 p3 hpl r0 r1 r2 r3 hrl
  obtain ⟨p0, p1, p2, p3⟩ := blk4 H5.out.1.kx
  have hpl := lt_of_blk H5.out.1.kx
  go_wp2_with fail
  refine (CTx.out w5 H5.out.1).mono ?_
  rintro e w6 ⟨rfl, b6⟩
  have H6 := Lib.hid (And.intro (H5.out.1.then_ b6) (H5.out.2.then_ b6))
  clear b6 H5 CTx p0 p1 p2 p3 hpl
  go_wp2_with fail
  refine Rg.rgL (fun a b => Below a.heap.size a b)
    [(fun vs u => vs 0 = prod kx Wx Hx Ax x.length cx), (fun vs u => vs 1 = .int .i64 E1), (fun vs u => vs 2 = prod ky Wy Hy Ay y.length cy), (fun vs u => vs 3 = .int .i64 E2), (fun vs u => ∃ b : Nat, vs 4 = .slice (some ⟨b, 0, none⟩) 2 2 ∧ u.heap[b]? = some (.cells #[.int .i64 E1, .int .i64 E2] 31 (0, 0))), (fun vs u => vs 5 = .int .i64 EE), (fun vs u => vs 6 = prod kx Wx Hx Ax x.length cx)]
    [[], [0], [], [0, 1, 2], [0, 1, 2, 3], [0, 1, 2, 3, 4], []] [some 47, some 48, some 49, some 50, some 51, some 52, some 53, some 54, some 13, some 14] [4] (fun _ _ => True) [[], [0], [], [0, 1, 2], [0, 1, 2, 3], [0, 1, 2, 3, 4], [], [0, 1, 2, 3, 4, 5, 6], [0, 1, 2, 3, 4, 5, 6, 7], [0, 1, 2, 3, 4, 5, 6, 7, 8]]
    (by kernel_rfl) (by decide) (by kernel_rfl) (by kernel_rfl) (by kernel_rfl) (by kernel_rfl) (by kernel_rfl) (fun _ => Below.refl _ _) (fun _ _ _ h k => h.ext k) (fun _ _ h => h.size) ?_ trivial ?_ ?_
  · intro t ht vs w w' h hE
    simp only [List.mem_cons, List.not_mem_nil, or_false] at ht
    rcases ht with rfl | rfl | rfl | rfl | rfl | rfl | rfl
    · exact h
    · exact h
    · exact h
    · exact h
    · obtain ⟨b, e, k⟩ := h
      exact ⟨b, e, blk_below hE k⟩
    · exact h
    · exact h
  ·
    refine Rg.cons 0 1 rfl (Rg.plain rfl ?_) ?_
    · intro vs W n hn hI hG hT hF K hK
      simp only [Rg.putsD, List.getD_cons_zero, List.getD_cons_succ, Act.put, List.setIfInBounds_toArray, List.set_cons_zero, List.set_cons_succ] at hK ⊢
      clear hn
      clear hF hI
      obtain ⟨c0, c1, c2, c3⟩ := blk4 (blk_below hG H6.out.1.kx)
      have H := Lib.hid hK
      clear hK hT
      go_simp
      exact H.out _ _ (Below.refl _ _) rfl (fun h => by cases h) trivial
    refine Rg.cons 1 2 rfl (Rg.plain rfl ?_) ?_
    · intro vs W n hn hI hG hT hF K hK
      simp only [Rg.putsD, List.getD_cons_zero, List.getD_cons_succ, Act.put, List.setIfInBounds_toArray, List.set_cons_zero, List.set_cons_succ] at hK ⊢
      clear hn
      clear hF hI
      have t0 : vs 0 = prod kx Wx Hx Ax x.length cx := hT 0 (by decide)
      have HG := Lib.hid hG
      clear hG
      simp only [t0] at hK
      have H := Lib.hid hK
      clear hK hT
      go_simp
      refine (CFx.out _ (PlAt.below (w := w6.drew) H6.out.1.ax HG.out)).mono ?_
      rintro e w7 ⟨rfl, b7⟩
      exact H.out _ _ b7 rfl (fun h => by cases h) trivial
    refine Rg.cons 2 3 rfl (Rg.plain rfl ?_) ?_
    · intro vs W n hn hI hG hT hF K hK
      simp only [Rg.putsD, List.getD_cons_zero, List.getD_cons_succ, Act.put, List.setIfInBounds_toArray, List.set_cons_zero, List.set_cons_succ] at hK ⊢
      clear hn
      clear hF hI
      obtain ⟨c0, c1, c2, c3⟩ := blk4 (blk_below hG H6.out.1.ky)
      have H := Lib.hid hK
      clear hK hT
      go_simp
      exact H.out _ _ (Below.refl _ _) rfl (fun h => by cases h) trivial
    refine Rg.cons 3 4 rfl (Rg.plain rfl ?_) ?_
    · intro vs W n hn hI hG hT hF K hK
      simp only [Rg.putsD, List.getD_cons_zero, List.getD_cons_succ, Act.put, List.setIfInBounds_toArray, List.set_cons_zero, List.set_cons_succ] at hK ⊢
      clear hn
      clear hF hI
      have t0 : vs 0 = prod kx Wx Hx Ax x.length cx := hT 0 (by decide)
      have t1 : vs 1 = .int .i64 E1 := hT 1 (by decide)
      have t2 : vs 2 = prod ky Wy Hy Ay y.length cy := hT 2 (by decide)
      have HG := Lib.hid hG
      clear hG
      simp only [t0, t1, t2] at hK
      have H := Lib.hid hK
      clear hK hT
      go_simp
      refine (CFy.out _ (PlAt.below (w := w6.drew) H6.out.1.ay HG.out)).mono ?_
      rintro e w7 ⟨rfl, b7⟩
      exact H.out _ _ b7 rfl (fun h => by cases h) trivial
    refine Rg.cons 4 5 rfl (Rg.plain rfl ?_) ?_
    · intro vs W n hn hI hG hT hF K hK
      simp only [Rg.putsD, List.getD_cons_zero, List.getD_cons_succ, Act.put, List.setIfInBounds_toArray, List.set_cons_zero, List.set_cons_succ] at hK ⊢
      clear hn
      clear hF hI
      have t0 : vs 0 = prod kx Wx Hx Ax x.length cx := hT 0 (by decide)
      have t1 : vs 1 = .int .i64 E1 := hT 1 (by decide)
      have t2 : vs 2 = prod ky Wy Hy Ay y.length cy := hT 2 (by decide)
      have t3 : vs 3 = .int .i64 E2 := hT 3 (by decide)
      simp only [t0, t1, t2, t3] at hK
      have H := Lib.hid hK
      clear hK hT
      go_simp
      exact H.out _ _ ((Below.refl _ _).alloc (Nat.le_refl _) _) (show ∃ b : Nat, _ = _ ∧ _ = _ from ⟨_, rfl, blk_new W _ rfl⟩) (fun _ => ⟨W.heap.size, rfl, Nat.le_refl _, by simp⟩) trivial
    refine Rg.cons 5 6 rfl (Rg.plain rfl ?_) ?_
    · intro vs W n hn hI hG hT hF K hK
      simp only [Rg.putsD, List.getD_cons_zero, List.getD_cons_succ, Act.put, List.setIfInBounds_toArray, List.set_cons_zero, List.set_cons_succ] at hK ⊢
      clear hn
      clear hF hI
      have t0 : vs 0 = prod kx Wx Hx Ax x.length cx := hT 0 (by decide)
      have t1 : vs 1 = .int .i64 E1 := hT 1 (by decide)
      have t2 : vs 2 = prod ky Wy Hy Ay y.length cy := hT 2 (by decide)
      have t3 : vs 3 = .int .i64 E2 := hT 3 (by decide)
      have t4 : ∃ b : Nat, vs 4 = .slice (some ⟨b, 0, none⟩) 2 2 ∧ W.heap[b]? = some (.cells #[.int .i64 E1, .int .i64 E2] 31 (0, 0)) := hT 4 (by decide)
      obtain ⟨b4, e4, k4⟩ := t4
      simp only [e4] at hK
      have K4 := Lib.hid k4
      clear k4
      simp only [t0, t1, t2, t3] at hK
      have H := Lib.hid hK
      clear hK hT
      go_simp
      refine (HLN.out _ _ 2 ⟨lt_of_blk K4.out, fun j u hu => by rw [cell_of_blk K4.out]; simpa using hu⟩).mono ?_
      rintro e w7 ⟨rfl, rfl⟩
      exact H.out _ _ (Below.refl _ _) rfl (fun h => by cases h) trivial
    refine Rg.cons 6 7 rfl (Rg.plain rfl ?_) ?_
    · intro vs W n hn hI hG hT hF K hK
      simp only [Rg.putsD, List.getD_cons_zero, List.getD_cons_succ, Act.put, List.setIfInBounds_toArray, List.set_cons_zero, List.set_cons_succ] at hK ⊢
      clear hn
      clear hF hI
      obtain ⟨c0, c1, c2, c3⟩ := blk4 (blk_below hG H6.out.1.kx)
      have H := Lib.hid hK
      clear hK hT
      go_simp
      exact H.out _ _ (Below.refl _ _) rfl (fun h => by cases h) trivial
    exact Rg.nil
  · intro vs W hG hI hT hF
    have t0 : vs 0 = prod kx Wx Hx Ax x.length cx := hT 0 (by decide)
    have t1 : vs 1 = .int .i64 E1 := hT 1 (by decide)
    have t2 : vs 2 = prod ky Wy Hy Ay y.length cy := hT 2 (by decide)
    have t3 : vs 3 = .int .i64 E2 := hT 3 (by decide)
    have t4 : ∃ b : Nat, vs 4 = .slice (some ⟨b, 0, none⟩) 2 2 ∧ W.heap[b]? = some (.cells #[.int .i64 E1, .int .i64 E2] 31 (0, 0)) := hT 4 (by decide)
    have t5 : vs 5 = .int .i64 EE := hT 5 (by decide)
    have t6 : vs 6 = prod kx Wx Hx Ax x.length cx := hT 6 (by decide)
    simp only [List.length_cons, List.length_nil, Nat.reduceAdd, List.range, List.range.loop, List.drop_succ_cons, List.drop_zero, Rg.putsD, List.getD_cons_zero, List.getD_cons_succ, Act.put, List.setIfInBounds_toArray, List.set_cons_zero, List.set_cons_succ, t0, t1, t2, t3, t5, t6]
    clear hT t0 t1 t2 t3 t5 t6
    have H7 : Hid (L5 w w3.heap.size (w3.heap.size + 1) #[.string kx, .int .i64 Wx, .int .i64 Hx, .slice Ax x.length cx] #[.string ky, .int .i64 Wy, .int .i64 Hy, .slice Ay y.length cy] Ax x Ay y W ∧ S3 u1 u2 u3 L1 L2 L3 W) := ⟨(H6.out.1.then_ (Below.refl _ _).drew).then_ hG, (H6.out.2.then_ (Below.refl _ _).drew).then_ hG⟩
    clear hF hG hI H6 CFy HLN t4
    go_wp2_with fail
    refine (CFx.out _ H7.out.1.ax).mono ?_
    rintro e w8 ⟨rfl, b8⟩
    have H8 : Hid (L5 w w3.heap.size (w3.heap.size + 1) #[.string kx, .int .i64 Wx, .int .i64 Hx, .slice Ax x.length cx] #[.string ky, .int .i64 Wy, .int .i64 Hy, .slice Ay y.length cy] Ax x Ay y w8 ∧ S3 u1 u2 u3 L1 L2 L3 w8) := ⟨H7.out.1.then_ b8, H7.out.2.then_ b8⟩
    clear b8 H7 CFx
    go_upto_if 56 with (fail)
    go_cut [15, 16, 17] (fun v15 v16 v17 wc => Hid (L5 w w3.heap.size (w3.heap.size + 1) #[.string kx, .int .i64 Wx, .int .i64 Hx, .slice Ax x.length cx] #[.string ky, .int .i64 Wy, .int .i64 Hy, .slice Ay y.length cy] Ax x Ay y wc ∧ S3 u1 u2 u3 L1 L2 L3 wc ∧ S3 v15 v16 v17 L1 L2 L3 wc))
    case first =>
      by_cases h0 : EE = 0
      · obtain ⟨hL1, hL2, hL3⟩ := HL.out
        rw [if_pos h0] at hL1 hL2 hL3
        have HLL := Lib.hid (And.intro hL1 (And.intro hL2 hL3))
        clear hL1 hL2 hL3
        subst h0
        obtain ⟨p0, p1, p2, p3⟩ := blk4 H8.out.1.kx
        have hpl := lt_of_blk H8.out.1.kx
        obtain ⟨r0, r1, r2, r3⟩ := blk4 H8.out.1.ky
        have hrl := lt_of_blk H8.out.1.ky
        go_wp2_with fail
        refine (CCP.out w8 H8.out.1).mono ?_
        rintro e w9 ⟨v15, v16, v17, rfl, b9, rr9⟩
        have H9 : Hid (L5 w w3.heap.size (w3.heap.size + 1) #[.string kx, .int .i64 Wx, .int .i64 Hx, .slice Ax x.length cx] #[.string ky, .int .i64 Wy, .int .i64 Hy, .slice Ay y.length cy] Ax x Ay y w9 ∧ S3 u1 u2 u3 L1 L2 L3 w9 ∧ S3 v15 v16 v17 L1 L2 L3 w9) := by
          have h := S3.of rr9
          rw [HLL.out.1, HLL.out.2.1, HLL.out.2.2] at h
          exact ⟨H8.out.1.then_ b9, H8.out.2.then_ b9, h⟩
        clear b9 rr9 H8 p0 p1 p2 p3 hpl r0 r1 r2 r3 hrl
        go_wp2_with fail
        go_meet
        exact H9
      · have hne : (EE == 0) = false := by simpa using h0
        have H9 : Hid (L5 w w3.heap.size (w3.heap.size + 1) #[.string kx, .int .i64 Wx, .int .i64 Hx, .slice Ax x.length cx] #[.string ky, .int .i64 Wy, .int .i64 Hy, .slice Ay y.length cy] Ax x Ay y w8 ∧ S3 u1 u2 u3 L1 L2 L3 w8 ∧ S3 (.slice none 0 0) (.slice none 0 0) (.slice none 0 0) L1 L2 L3 w8) := by
          obtain ⟨hL1, hL2, hL3⟩ := HL.out
          rw [if_neg h0] at hL1 hL2 hL3
          subst hL1; subst hL2; subst hL3
          exact ⟨H8.out.1, H8.out.2, ⟨none, 0, rfl, .inl rfl⟩, ⟨none, 0, rfl, .inl rfl⟩, ⟨none, 0, rfl, .inl rfl⟩⟩
        clear H8
        go_wp2_with fail
        go_meet
        exact H9
    case rest =>
      have H9 := hcut
      clear H8 CCP HL hcut
      go_upto_if 65 with (fail)
      go_cut [18] (fun v18 wd => v18 = .string TX ∧ Hid (L5 w w3.heap.size (w3.heap.size + 1) #[.string kx, .int .i64 Wx, .int .i64 Hx, .slice Ax x.length cx] #[.string ky, .int .i64 Wy, .int .i64 Hy, .slice Ay y.length cy] Ax x Ay y wd ∧ S3 u1 u2 u3 L1 L2 L3 wd ∧ S3 u15 u16 u17 L1 L2 L3 wd))
      case first =>
        by_cases h0 : E1 = 0
        · have hX := HTX.out
          rw [if_pos h0] at hX
          have CP := CPL.out h0
          rw [hX] at CP
          have CP2 := Lib.hid CP
          clear CP hX
          subst h0
          obtain ⟨p0, p1, p2, p3⟩ := blk4 H9.out.1.kx
          have hpl := lt_of_blk H9.out.1.kx
          go_wp2_with fail
          refine (CP2.out _ H9.out.1).mono ?_
          rintro e w10 ⟨rfl, b10⟩
          have H10 : Hid (L5 w w3.heap.size (w3.heap.size + 1) #[.string kx, .int .i64 Wx, .int .i64 Hx, .slice Ax x.length cx] #[.string ky, .int .i64 Wy, .int .i64 Hy, .slice Ay y.length cy] Ax x Ay y w10 ∧ S3 u1 u2 u3 L1 L2 L3 w10 ∧ S3 u15 u16 u17 L1 L2 L3 w10) := ⟨H9.out.1.then_ b10, H9.out.2.1.then_ b10, H9.out.2.2.then_ b10⟩
          clear b10 H9 p0 p1 p2 p3 hpl
          go_wp2_with fail
          go_meet
          exact ⟨rfl, H10⟩
        · have hne : (E1 == 0) = false := by simpa using h0
          have hX := HTX.out
          rw [if_neg h0] at hX
          go_wp2_with fail
          go_meet
          exact ⟨by rw [← hX]; rfl, H9⟩
      case rest =>
        obtain ⟨rfl, H10⟩ := hcut
        clear H9 CPL HTX HE0
        generalize hrd : rdOut T = R at *
        clear hrd
        obtain ⟨pd, ln, er⟩ := R
        dsimp only at CRD CRR hlen
        go_wp2_with fail
        refine (CRD.out wc H10.out.1.below).mono ?_
        rintro e w11 ⟨v11, rfl, b11, pv11⟩
        have HV11 := Lib.hid pv11
        obtain ⟨A11, c11, e11, _⟩ := pv11
        subst e11
        have H11 := Lib.hid (And.intro ((H10.out.1.then_ b11).then_ ((Below.refl _ _).alloc (Nat.le_refl _) (.cells #[.string pd.key, .int .i64 pd.w, .int .i64 pd.h, .slice A11 pd.pls.length c11] 44))) (And.intro ((H10.out.2.1.then_ b11).then_ ((Below.refl _ _).alloc (Nat.le_refl _) (.cells #[.string pd.key, .int .i64 pd.w, .int .i64 pd.h, .slice A11 pd.pls.length c11] 44))) (And.intro ((H10.out.2.2.then_ b11).then_ ((Below.refl _ _).alloc (Nat.le_refl _) (.cells #[.string pd.key, .int .i64 pd.w, .int .i64 pd.h, .slice A11 pd.pls.length c11] 44))) (And.intro (HV11.out.below ((Below.refl _ _).alloc (Nat.le_refl _) (.cells #[.string pd.key, .int .i64 pd.w, .int .i64 pd.h, .slice A11 pd.pls.length c11] 44))) (blk_new w11 (.cells #[.string pd.key, .int .i64 pd.w, .int .i64 pd.h, .slice A11 pd.pls.length c11] 44) rfl)))))
        clear b11 HV11 H10 CRD
        go_upto_region 13 with (fail)
        generalize w11.alloc (.cells #[.string pd.key, .int .i64 pd.w, .int .i64 pd.h, .slice A11 pd.pls.length c11] 44) = w12 at *
        go_wp2_with fail
        refine (CRR.out w12 H11.out.1.below).mono ?_
        rintro e w13 ⟨v13, rfl, b13, pv13⟩
        have HV13 := Lib.hid pv13
        obtain ⟨A13, c13, e13, _⟩ := pv13
        subst e13
        have H13 := Lib.hid (And.intro ((H11.out.1.then_ b13).then_ ((Below.refl _ _).alloc (Nat.le_refl _) (.cells #[.string pd.key, .int .i64 pd.w, .int .i64 pd.h, .slice A13 pd.pls.length c13] 44))) (And.intro ((H11.out.2.1.then_ b13).then_ ((Below.refl _ _).alloc (Nat.le_refl _) (.cells #[.string pd.key, .int .i64 pd.w, .int .i64 pd.h, .slice A13 pd.pls.length c13] 44))) (And.intro ((H11.out.2.2.1.then_ b13).then_ ((Below.refl _ _).alloc (Nat.le_refl _) (.cells #[.string pd.key, .int .i64 pd.w, .int .i64 pd.h, .slice A13 pd.pls.length c13] 44))) (And.intro ((H11.out.2.2.2.1.below b13).below ((Below.refl _ _).alloc (Nat.le_refl _) (.cells #[.string pd.key, .int .i64 pd.w, .int .i64 pd.h, .slice A13 pd.pls.length c13] 44))) (And.intro (blk_alloc (blk_below b13 H11.out.2.2.2.2) (.cells #[.string pd.key, .int .i64 pd.w, .int .i64 pd.h, .slice A13 pd.pls.length c13] 44)) (And.intro (HV13.out.below ((Below.refl _ _).alloc (Nat.le_refl _) (.cells #[.string pd.key, .int .i64 pd.w, .int .i64 pd.h, .slice A13 pd.pls.length c13] 44))) (blk_new w13 (.cells #[.string pd.key, .int .i64 pd.w, .int .i64 pd.h, .slice A13 pd.pls.length c13] 44) rfl)))))))
        clear b13 HV13 H11 CRR
        go_upto_region 14 with (fail)
        generalize w13.alloc (.cells #[.string pd.key, .int .i64 pd.w, .int .i64 pd.h, .slice A13 pd.pls.length c13] 44) = w14 at *
        have Q1 := Lib.hid (equalStr_any L1 (by omega) _ _ w14 H13.out.2.1.1 H13.out.2.2.1.1)
        go_wp2_with fail
        refine Q1.out.mono ?_
        rintro e w15 ⟨rfl, b15⟩
        have B15 := Lib.hid b15
        clear b15 Q1
        have Q2 := Lib.hid (equalStr_any L2 (by omega) _ _ w15 (H13.out.2.1.2.1.below B15.out) (H13.out.2.2.1.2.1.below B15.out))
        go_wp2_with fail
        refine Q2.out.mono ?_
        rintro e w16 ⟨rfl, b16⟩
        have B16 : Hid (Below w14.heap.size w14 w16) := B15.out.then_below b16 B15.out.size
        clear b16 Q2 B15
        have Q3 := Lib.hid (equalStr_any L3 (by omega) _ _ w16 (H13.out.2.1.2.2.below B16.out) (H13.out.2.2.1.2.2.below B16.out))
        go_wp2_with fail
        refine Q3.out.mono ?_
        rintro e w17 ⟨rfl, b17⟩
        have B17 : Hid (Below w14.heap.size w14 w17) := B16.out.then_below b17 B16.out.size
        clear b17 Q3 B16
        have HX := Lib.hid (And.intro (H13.out.1.then_ B17.out) (And.intro (H13.out.2.2.2.1.below B17.out) (And.intro (blk_below B17.out H13.out.2.2.2.2.1) (And.intro (H13.out.2.2.2.2.2.1.below B17.out) (blk_below B17.out H13.out.2.2.2.2.2.2)))))
        clear H13 B17
        obtain ⟨p0, p1, p2, p3⟩ := blk4 HX.out.2.2.1
        have hpl := lt_of_blk HX.out.2.2.1
        obtain ⟨r0, r1, r2, r3⟩ := blk4 HX.out.2.2.2.2
        have hrl := lt_of_blk HX.out.2.2.2.2
        have Q4 := Lib.hid (sameProd_any pd hlen _ _ w17 HX.out.2.1 HX.out.2.2.2.1)
        go_wp2_with fail
        refine Q4.out.mono ?_
        rintro e w18 ⟨rfl, b18⟩
        have B18 : Hid (Below w.heap.size w w18) := HX.out.1.below.then_below b18 HX.out.1.below.size
        clear b18 HX Q4 p0 p1 p2 p3 hpl r0 r1 r2 r3 hrl
        go_wp2_with fail
        refine (paneled_any w18).mono ?_
        rintro e w19 ⟨rfl, b19⟩
        have B19 : Hid (Below w.heap.size w w19) := B18.out.then_below b19 B18.out.size
        clear b19 B18
        go_wp2_with fail
        go_ret
        exact ⟨rfl, B19.out⟩
end Go.Proofs.YtalconjnjaffkaaGreatDoor
