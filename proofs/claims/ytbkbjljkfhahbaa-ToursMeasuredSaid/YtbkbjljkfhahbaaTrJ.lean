/-
  The walk of the law ToursMeasured: what it makes.
-/
import Derived.Test.YtbkbjljkfhahbaaTrF
import Derived.Test.YtbkbjljkfhahbaaTrH
import Derived.Test.YtbkbjljkfhahbaaTrI
import Derived.Test.YtbkbjljkfhahbaaTqW
import Derived.Test.YtbkbjljkfhahbaaTqO
import Derived.Deep.DeepCutAuto
namespace Go.Proofs.Ytbkbjljkfhahbaa
open Go.RowKit
set_option linter.unusedSimpArgs false
set_option linter.unusedVariables false

theorem kept_belowL {sb : Nat} {w w' : World} {o : Obj} (hs : sb = w.heap.size) (h : Kept sb (w.alloc o) w') : Below w.heap.size w w' := by
  subst hs
  obtain ⟨a, b, c⟩ := h.outer
  refine ⟨a, b, c, by have := h.more; simp at this; omega, fun k hk => ?_⟩
  exact (h.old k (by simp; omega) (by omega)).trans (Below.heap_alloc w o k hk)
theorem own_readsF {B n : Nat} {v : Value} {W : World} {xs : List Int} (hx : xs.length = n) (ho : W.ownsRow B 3 1 v n (xs.map (Value.int .i64))) : ReadsF 0 encN v xs W := by
  obtain ⟨A, c, e, hr⟩ := readsN_own' ho hx.symm
  refine ⟨A, c, e, ?_, hr.imp_right ?_⟩
  · rcases ho.2 with ⟨h0, h1⟩ | ⟨g', cap', cur, hv, _, _, h1, _⟩
    · omega
    · rw [hv] at e
      injection e with _ _ e
      omega
  · rintro ⟨g, e, h⟩
    exact ⟨g, e, Nat.zero_le _, h⟩
theorem eqN_any (xs : List Int) (hx : xs.length ≤ 1000) {v1 v2 : Value} {w : World} (h1 : Reads encN v1 xs w) (h2 : Reads encN v2 xs w) :
    Calls Try.prog 17 #[v1, v2] w fun e w' => e = .returned (.bool true) ∧ Below w.heap.size w w' := by
  obtain ⟨A1, c1, rfl, h1⟩ := h1
  obtain ⟨A2, c2, rfl, h2⟩ := h2
  by_cases h0 : xs = []
  · subst h0
    refine (Try.slices_Equal_int_empty A1 A2 c1 0 c2 w (by omega)).mono ?_
    rintro e w' ⟨rfl, rfl⟩
    exact ⟨by simp, Below.refl _ _⟩
  · rcases h1 with h1 | ⟨g1, rfl, h1⟩
    · exact absurd h1 h0
    rcases h2 with h2 | ⟨g2, rfl, h2⟩
    · exact absurd h2 h0
    refine (Try.slices_Equal_int g1 0 xs.length c1 g2 0 xs.length c2 xs xs w (Nat.le_refl _) (Nat.le_refl _) (by omega) (by omega) (fun j hj => ?_) (fun j hj => ?_)).mono ?_
    · rw [Nat.zero_add, row_n h1 hj, List.getD_eq_getElem?_getD, List.getElem?_eq_getElem hj]
      rfl
    · rw [Nat.zero_add, row_n h2 hj, List.getD_eq_getElem?_getD, List.getElem?_eq_getElem hj]
      rfl
    · rintro e w' ⟨rfl, q, rfl⟩
      exact ⟨by simp, below_drewN (Below.refl _ _) q⟩

theorem impV_pos {s : Int × Int} {l : List (Int × Int)} {o : List Int} (h : tourErr s l o = 0) : impV s l o = (impL s l o, lenOf s l (impL s l o)) := if_pos h
theorem impV_neg {s : Int × Int} {l : List (Int × Int)} {o : List Int} (h : ¬ tourErr s l o = 0) : impV s l o = ([], 0) := if_neg h
theorem impV_len (s : Int × Int) (l : List (Int × Int)) (o : List Int) : (impV s l o).1.length ≤ o.length := by
  by_cases h : tourErr s l o = 0
  · rw [impV_pos h]
    have h3 := tErr_ok (tourErr_ok h).1
    have := (imp_all h3.1 h3.2.2 o).len
    show (impL s l o).length ≤ _
    omega
  · rw [impV_neg h]; simp
theorem nearV_len (s : Int × Int) (l : List (Int × Int)) : (nearV s l).1.length ≤ l.length := by
  unfold nearV
  split
  · exact Nat.le_of_eq (nearK_len _ _ _)
  · simp
theorem nil_readsN (W : World) : Reads encN (.slice none 0 0) [] W := ⟨none, 0, rfl, .inl rfl⟩

/-- The start in its block, the points, the order, and the stream. -/
structure T7 (wo : World) (sb g : Nat) (s : Int × Int) (pv : Value) (l : List (Int × Int)) (ov : Value) (o : List Int) (W : World) : Prop where
  tk : Took sb 90 wo W
  k1 : W.heap[g]? = some (.cells #[.int .i64 s.1, .int .i64 s.2] 27 (0, 0))
  rd : Reads encP pv l W
  ro : ReadsF 0 encN ov o W
theorem T7.then_ {wo : World} {sb g : Nat} {s : Int × Int} {pv : Value} {l : List (Int × Int)} {ov : Value} {o : List Int} {W W' : World} (h : T7 wo sb g s pv l ov o W) (hb : Below W.heap.size W W') : T7 wo sb g s pv l ov o W' :=
  ⟨h.tk.below hb, blk_below hb h.k1, h.rd.below hb, h.ro.below hb⟩

set_option maxRecDepth 100000 in
set_option maxHeartbeats 16000000 in
theorem lawT_any (A0 : Option Addr) (n c0 : Nat) (w : World) (hc : n ≤ c0) (hm : c0 ≤ 9223372036854775807) (hA : IntsAt w A0 n w.heap.size) :
    Calls Try.prog 3 #[.slice A0 n c0] w fun e w' => e = .returned (.bool true) ∧ Below w.heap.size w w' := by
  have hs0 : IsStream (w.alloc (.cells #[.slice A0 n c0, .int .i64 0] 25)) w.heap.size 0 := by
    refine ⟨A0, n, c0, 0, hc, hm, Nat.le_refl _, blk_new w _ rfl, fun hn => ?_⟩
    obtain ⟨ad, e, h1, h2, h3⟩ := hA hn
    refine ⟨ad, e, by simp; omega, h2, fun k hk => ?_⟩
    obtain ⟨x, hx⟩ := h3 k hk
    exact ⟨x, ((((Below.refl w.heap.size w).alloc (Nat.le_refl _) _).cell (by rw [addr_block]; exact h1))).trans hx⟩
  obtain ⟨wo, hwo⟩ : ∃ wo, wo = w.alloc (.cells #[.slice A0 n c0, .int .i64 0] 25) := ⟨_, rfl⟩
  have HWO : Hid (Below w.heap.size w wo ∧ w.heap.size < wo.heap.size) := ⟨by rw [hwo]; exact (Below.refl _ _).alloc (Nat.le_refl _) _, by rw [hwo]; simp⟩
  have HW := Lib.hid hwo
  rw [← hwo] at hs0
  clear hwo
  have H0 := Lib.hid (Took.refl hs0)
  have hwz := HWO.out.2
  have HKB : Hid (∀ W, Kept w.heap.size wo W → Below w.heap.size w W) := fun W h => kept_belowL rfl (by rw [HW.out] at h; exact h)
  go_enter Try.func3, Try.ntmps3
  go_upto_region 2 with (fail)
  rw [← HW.out]
  go_wp2_with fail
  refine (aplace_any w.heap.size 0 wo (by omega) H0.out.1).mono ?_
  rintro e w1 ⟨x1, y1, rfl, t1⟩
  have H1 := Lib.hid t1
  have hz1 := t1.size
  clear t1
  go_wp2_with fail
  refine (pointsOf_any w.heap.size 5 6 (by omega) w1 (by omega) H1.out.1).mono ?_
  rintro e w2 ⟨v1, l, rfl, hl6, how1, t2⟩
  have H2 : Hid (Took w.heap.size 36 wo w2 ∧ w2.ownsRow wo.heap.size 27 2 v1 l.length (l.flatMap encP)) := ⟨(H1.out.trans t2).more (by omega), own_mono how1 hz1⟩
  have hz2 := H2.out.1.size
  clear t2 how1 H1
  obtain ⟨A, c, rfl, _⟩ := own_form H2.out.2
  go_upto_region 3 with (fail)
  have H3 : Hid (Took w.heap.size 36 wo (w2.alloc (.cells #[.int .i64 x1, .int .i64 y1] 27)) ∧ (w2.alloc (.cells #[.int .i64 x1, .int .i64 y1] 27)).ownsRow wo.heap.size 27 2 (.slice A l.length c) l.length (l.flatMap encP) ∧ (w2.alloc (.cells #[.int .i64 x1, .int .i64 y1] 27)).heap[w2.heap.size]? = some (.cells #[.int .i64 x1, .int .i64 y1] 27 (0, 0))) := ⟨H2.out.1.alloc _, H2.out.2.alloc _, blk_new w2 _ rfl⟩
  generalize w2.alloc (.cells #[.int .i64 x1, .int .i64 y1] 27) = w3 at *
  generalize w2.heap.size = g at *
  clear H2
  have hgs : g ≠ w.heap.size := by omega
  go_wp2_with fail
  refine (anOrder_any w.heap.size 36 l.length (by omega) w3 (by omega) H3.out.1.1).mono ?_
  rintro e w4 ⟨v4, m, rfl, hm7, ⟨o, hom, r4⟩, t4⟩
  have H4 : Hid (Took w.heap.size 60 wo w4 ∧ w4.ownsRow wo.heap.size 27 2 (.slice A l.length c) l.length (l.flatMap encP) ∧ w4.heap[g]? = some (.cells #[.int .i64 x1, .int .i64 y1] 27 (0, 0)) ∧ w4.ownsRow wo.heap.size 3 1 v4 m (o.map (Value.int .i64))) := ⟨(H3.out.1.trans t4).more (by omega), kept_own H3.out.2.1 t4.2 hwz, t4.blk H3.out.2.2 hgs, own_mono r4 H3.out.1.size⟩
  clear t4 H3 r4
  go_wp2_with fail
  refine (flip_any w.heap.size 60 20 w4 (by omega) (by omega) (by omega) H4.out.1.1).mono ?_
  rintro e w5 ⟨f5, rfl, t5⟩
  have H5 : Hid (Took w.heap.size 61 wo w5 ∧ w5.ownsRow wo.heap.size 27 2 (.slice A l.length c) l.length (l.flatMap encP) ∧ w5.heap[g]? = some (.cells #[.int .i64 x1, .int .i64 y1] 27 (0, 0)) ∧ w5.ownsRow wo.heap.size 3 1 v4 m (o.map (Value.int .i64))) := ⟨H4.out.1.trans t5, kept_own H4.out.2.1 t5.2 hwz, t5.blk H4.out.2.2.1 hgs, kept_own H4.out.2.2.2 t5.2 hwz⟩
  clear t5 H4
  have hol : o.length ≤ 7 := by omega
  obtain ⟨Ao, co, rfl, _⟩ := own_form H5.out.2.2.2
  have HOM := Lib.hid hom
  clear hom
  go_upto_if 40 with (fail)
  go_cut [5] (fun v5 wc => ∃ (A' : Option Addr) (c' : Nat) (l' : List (Int × Int)), v5 = .slice A' l'.length c' ∧ l'.length ≤ 10 ∧ Hid (T7 wo w.heap.size g (x1, y1) (.slice A' l'.length c') l' (.slice Ao m co) o wc))
  case first => as_aux_lemma =>
    cases f5
    · go_wp2_with fail
      go_meet
      exact ⟨A, c, l, rfl, by omega, H5.out.1.more (by omega), H5.out.2.2.1, reads_own H5.out.2.1, own_readsF HOM.out H5.out.2.2.2⟩
    · go_wp2_with fail
      have H6 : Hid (Took w.heap.size 61 wo (w5.alloc (.cells #[.int .i64 1, .int .i64 0] 27)) ∧ (w5.alloc (.cells #[.int .i64 1, .int .i64 0] 27)).heap[g]? = some (.cells #[.int .i64 x1, .int .i64 y1] 27 (0, 0)) ∧ (w5.alloc (.cells #[.int .i64 1, .int .i64 0] 27)).ownsRow wo.heap.size 3 1 (.slice Ao m co) m (o.map (Value.int .i64)) ∧ (w5.alloc (.cells #[.int .i64 1, .int .i64 0] 27)).heap[w5.heap.size]? = some (.cells #[.int .i64 1, .int .i64 0] 27 (0, 0))) := ⟨H5.out.1.alloc _, blk_alloc H5.out.2.2.1 _, H5.out.2.2.2.alloc _, blk_new w5 _ rfl⟩
      have hz5 : wo.heap.size ≤ w5.heap.size := H5.out.1.size
      have HG6 : Hid ((w5.alloc (.cells #[.int .i64 1, .int .i64 0] 27)).heap.size = w5.heap.size + 1) := by show _ = _; simp
      generalize w5.alloc (.cells #[.int .i64 1, .int .i64 0] 27) = w6 at *
      generalize w5.heap.size = gx at *
      clear H5
      refine (pick_lit w.heap.size 61 [9, 10] w6 (gx + 1) 2 rfl (by omega) (by omega) HG6.out (by omega) H6.out.1.1).mono ?_
      rintro e w7 ⟨xc, hxc, rfl, t7⟩
      obtain ⟨cc, rfl, hc1, hc2⟩ : ∃ cc : Nat, xc = (cc : Int) ∧ 1 ≤ cc ∧ cc ≤ 10 := by
        simp only [List.mem_cons, List.not_mem_nil, or_false] at hxc
        rcases hxc with rfl | rfl
        · exact ⟨9, rfl, by omega, by omega⟩
        · exact ⟨10, rfl, by omega, by omega⟩
      have hgxs : gx ≠ w.heap.size := by omega
      have H7 : Hid (Took w.heap.size 62 wo w7 ∧ w7.heap[g]? = some (.cells #[.int .i64 x1, .int .i64 y1] 27 (0, 0)) ∧ w7.ownsRow wo.heap.size 3 1 (.slice Ao m co) m (o.map (Value.int .i64)) ∧ w7.heap[gx]? = some (.cells #[.int .i64 1, .int .i64 0] 27 (0, 0))) := ⟨H6.out.1.trans t7, t7.blk H6.out.2.1 hgs, kept_own H6.out.2.2.1 t7.2 hwz, t7.blk H6.out.2.2.2 hgxs⟩
      clear t7 H6 hxc
      go_wp2_with fail
      refine (repeatPt_any gx cc hc1 (by omega) H7.out.2.2.2).mono ?_
      rintro e w8 ⟨g8, rfl, b8, hg8, k8⟩
      have H8 : Hid (T7 wo w.heap.size g (x1, y1) (.slice (some ⟨g8, 0, none⟩) cc cc) (List.replicate cc ((1 : Int), (0 : Int))) (.slice Ao m co) o w8) := by
        refine ⟨(H7.out.1.below b8).more (by omega), blk_below b8 H7.out.2.1, ⟨some ⟨g8, 0, none⟩, cc, by rw [List.length_replicate], .inr ⟨g8, rfl, lt_of_blk k8, fun j u hu => ?_⟩⟩, (own_readsF HOM.out H7.out.2.2.1).below b8⟩
        rw [cell_of_blk k8, rpL_flat]
        simpa using hu
      clear b8 k8 H7
      go_wp2_with fail
      go_meet
      refine ⟨some ⟨g8, 0, none⟩, cc, List.replicate cc ((1 : Int), (0 : Int)), by rw [List.length_replicate], by rw [List.length_replicate]; exact hc2, ?_⟩
      rw [List.length_replicate]
      exact H8.out
  case rest =>
    obtain ⟨Ap, cp, p, rfl, hp10, H8⟩ := hcut
    clear H5 H0 hs0 hA
    have C1 := Lib.hid (fun (W : World) (h : Reads encP (.slice Ap p.length cp) p W) => tourFault_any (x1, y1) p (by omega) 500 h)
    have C2 := Lib.hid (fun (W : World) (h : ReadsF 0 encN (.slice Ao m co) o W) => orderFault_any p.length (by omega) o (by omega) h)
    have C3 := Lib.hid (fun (W : World) (g c : Nat) (h : LineAt W g ([tErr 500 (x1, y1) p, ordErr p.length o].map (Value.int .i64))) => orO_any [tErr 500 (x1, y1) p, ordErr p.length o] (by simp) g c W h)
    rw [tourErr_or] at C3
    simp only [List.length_cons, List.length_nil, Nat.zero_add, Nat.reduceAdd] at C3
    have C4 := Lib.hid (fun (W : World) (h1 : Reads encP (.slice Ap p.length cp) p W) (h2 : Reads encN (.slice Ao m co) o W) => tourLength_any (x1, y1) p (by omega) o (by omega) h1 h2)
    have C5 := Lib.hid (fun (W : World) (h1 : Reads encP (.slice Ap p.length cp) p W) (h2 : Reads encN (.slice Ao m co) o W) => tourImproved_any (x1, y1) p (by omega) o (by omega) h1 h2)
    have C6 := Lib.hid (fun (h : tourErr (x1, y1) p o = 0) (W : World) (h1 : Reads encP (.slice Ap p.length cp) p W) (h2 : Reads encN (.slice Ao m co) o W) => lengthOf_any (x1, y1) p o (tErr_ok (tourErr_ok h).1).1 (tErr_ok (tourErr_ok h).1).2.2 (by omega) (by omega) (ordErr_ok (tourErr_ok h).2).rng W h1 h2)
    have C7 := Lib.hid (fun (h : tourErr (x1, y1) p o = 0) (W : World) (h1 : Reads encP (.slice Ap p.length cp) p W) (h2 : Reads encN (.slice Ao m co) o W) => improvedRef_any (x1, y1) p o (tErr_ok (tourErr_ok h).1).1 (tErr_ok (tourErr_ok h).1).2.2 (by omega) (by omega) (ordErr_ok (tourErr_ok h).2).rng W h1 h2)
    have HLV : Hid ((tourErr (x1, y1) p o = 0 → lenV (x1, y1) p o = lenOf (x1, y1) p o) ∧ (¬ tourErr (x1, y1) p o = 0 → lenV (x1, y1) p o = 0)) := ⟨fun h => if_pos h, fun h => if_neg h⟩
    have HIV : Hid ((tourErr (x1, y1) p o = 0 → impV (x1, y1) p o = (impL (x1, y1) p o, lenOf (x1, y1) p (impL (x1, y1) p o))) ∧ (¬ tourErr (x1, y1) p o = 0 → impV (x1, y1) p o = ([], 0))) := ⟨impV_pos, impV_neg⟩
    have HIL := Lib.hid (impV_len (x1, y1) p o)
    generalize tourErr (x1, y1) p o = ONE at *
    generalize lenV (x1, y1) p o = LV at *
    generalize lenOf (x1, y1) p (impL (x1, y1) p o) = LI at *
    generalize impL (x1, y1) p o = IL at *
    obtain ⟨IV, hIV⟩ : ∃ x, impV (x1, y1) p o = x := ⟨_, rfl⟩
    rw [hIV] at C5 HIV HIL
    clear hIV
    obtain ⟨I1, I2⟩ := IV
    generalize lenOf (x1, y1) p o = LO at *
    generalize ordErr p.length o = EO at *
    dsimp only at C1 C2 C3 C4 C5 C6 C7
    obtain ⟨E0, hE0⟩ : ∃ x, tErr 500 (x1, y1) p = x := ⟨_, rfl⟩
    rw [hE0] at C1 C3
    have HE0 := Lib.hid hE0
    clear hE0
    obtain ⟨c0, c1, _, _⟩ := blk2 H8.out.k1
    have hgl := lt_of_blk H8.out.k1
    go_wp2_with fail
    refine (C1.out _ H8.out.rd).mono ?_
    rintro e w9 ⟨rfl, b9⟩
    have H9 := Lib.hid (H8.out.then_ b9)
    clear b9 H8 C1 c0 c1 hgl
    go_wp2_with fail
    refine (C2.out _ H9.out.ro).mono ?_
    rintro e w10 ⟨rfl, rfl⟩
    clear C2
    go_wp2_with fail
    refine (C3.out _ _ _ (line_errs (blk_new w9 _ rfl))).mono ?_
    rintro e w11 ⟨rfl, rfl⟩
    have H10 := Lib.hid (H9.out.then_ ((Below.refl _ _).alloc (Nat.le_refl _) (.cells (List.map (Value.int .i64) [E0, EO]).toArray 35)))
    generalize w9.alloc (.cells (List.map (Value.int .i64) [E0, EO]).toArray 35) = w10 at *
    clear C3 H9
    obtain ⟨c0, c1, _, _⟩ := blk2 H10.out.k1
    have hgl := lt_of_blk H10.out.k1
    go_wp2_with fail
    refine (C4.out _ H10.out.rd H10.out.ro.reads).mono ?_
    rintro e w12 ⟨rfl, b12⟩
    have H12 := Lib.hid (H10.out.then_ b12)
    clear b12 H10 C4 c0 c1 hgl
    obtain ⟨c0, c1, _, _⟩ := blk2 H12.out.k1
    have hgl := lt_of_blk H12.out.k1
    go_wp2_with fail
    refine (C5.out _ H12.out.rd H12.out.ro.reads).mono ?_
    rintro e w13 ⟨v13, rfl, o13, b13⟩
    obtain ⟨A13, c13, rfl, _⟩ := own_form o13
    have H13 : Hid (T7 wo w.heap.size g (x1, y1) (.slice Ap p.length cp) p (.slice Ao m co) o w13 ∧ Reads encN (.slice A13 I1.length c13) I1 w13) := ⟨H12.out.then_ b13, readsN_own o13⟩
    clear b13 o13 H12 C5 c0 c1 hgl
    go_upto_if 73 with (fail)
    go_cut [14, 15, 16] (fun v14 v15 v16 wd => v14 = .int .i64 LV ∧ v16 = .int .i64 I2 ∧ ∃ (A15 : Option Addr) (c15 : Nat), v15 = .slice A15 I1.length c15 ∧ Hid (T7 wo w.heap.size g (x1, y1) (.slice Ap p.length cp) p (.slice Ao m co) o wd ∧ Reads encN (.slice A13 I1.length c13) I1 wd ∧ Reads encN (.slice A15 I1.length c15) I1 wd))
    case first => as_aux_lemma =>
      by_cases h1 : ONE = 0
      · obtain rfl : LV = LO := HLV.out.1 h1
        obtain ⟨rfl, rfl⟩ := Prod.mk.inj (HIV.out.1 h1)
        have C6' := Lib.hid (C6.out h1)
        have C7' := Lib.hid (C7.out h1)
        clear C6 C7 HLV HIV
        subst h1
        obtain ⟨c0, c1, _, _⟩ := blk2 H13.out.1.k1
        have hgl := lt_of_blk H13.out.1.k1
        go_wp2_with fail
        refine (C6'.out _ H13.out.1.rd H13.out.1.ro.reads).mono ?_
        rintro e w14 ⟨rfl, b14⟩
        have H14 := Lib.hid (And.intro (H13.out.1.then_ b14) (H13.out.2.below b14))
        clear b14 H13 C6' c0 c1 hgl
        obtain ⟨c0, c1, _, _⟩ := blk2 H14.out.1.k1
        have hgl := lt_of_blk H14.out.1.k1
        go_wp2_with fail
        refine (C7'.out _ H14.out.1.rd H14.out.1.ro.reads).mono ?_
        rintro e w15 ⟨v15, rfl, o15, b15⟩
        obtain ⟨A15, c15, rfl, _⟩ := own_form o15
        have H15 := Lib.hid (And.intro (H14.out.1.then_ b15) (And.intro (H14.out.2.below b15) (readsN_own o15)))
        clear b15 o15 H14 C7' c0 c1 hgl
        go_wp2_with fail
        go_meet
        exact ⟨rfl, rfl, A15, c15, rfl, H15.out⟩
      · obtain rfl : LV = 0 := HLV.out.2 h1
        obtain ⟨rfl, rfl⟩ := Prod.mk.inj (HIV.out.2 h1)
        have h1b : (ONE == 0) = false := by simpa using h1
        clear h1
        go_wp2_with fail
        go_meet
        exact ⟨rfl, rfl, none, 0, rfl, H13.out.1, H13.out.2, nil_readsN _⟩
    case rest =>
      obtain ⟨rfl, rfl, A15, c15, rfl, H15⟩ := hcut
      clear H13 C6 C7 HLV HIV
      have s1 : (ONE != ONE) = false := by simp
      have s2 : (LV != LV) = false := by simp
      have s3 : (I2 != I2) = false := by simp
      go_wp2_with fail
      refine (eqN_any I1 (by have := HIL.out; omega) H15.out.2.1 H15.out.2.2).mono ?_
      rintro e w16 ⟨rfl, b16⟩
      have H16 := Lib.hid (H15.out.1.then_ b16)
      clear b16 H15 s1 s2 s3
      have C8 := Lib.hid (fun (W : World) (h1 : Reads encP (.slice Ap p.length cp) p W) => tourNearest_any (x1, y1) p (by omega) h1)
      have C9 := Lib.hid (fun (h : tErr 500 (x1, y1) p = 0) (W : World) (h1 : Reads encP (.slice Ap p.length cp) p W) => nearRef_any (x1, y1) p (tErr_ok h).1 (tErr_ok h).2.2 (by omega) W h1)
      have HNV : Hid ((tErr 500 (x1, y1) p = 0 → nearV (x1, y1) p = (nearL (x1, y1) p, lenOf (x1, y1) p (nearL (x1, y1) p))) ∧ (¬ tErr 500 (x1, y1) p = 0 → nearV (x1, y1) p = ([], 0))) := ⟨fun h => if_pos h, fun h => if_neg h⟩
      have HNL := Lib.hid (nearV_len (x1, y1) p)
      have HN2 : Hid ((nearL (x1, y1) p).length = p.length) := nearK_len _ _ _
      rw [HE0.out] at C8 C9 HNV
      generalize lenOf (x1, y1) p (nearL (x1, y1) p) = LI at *
      generalize nearL (x1, y1) p = NL at *
      obtain ⟨NV, hNV⟩ : ∃ x, nearV (x1, y1) p = x := ⟨_, rfl⟩
      rw [hNV] at C8 HNV HNL
      clear hNV
      obtain ⟨N1, N2⟩ := NV
      dsimp only at C8 C9
      obtain ⟨c0, c1, _, _⟩ := blk2 H16.out.k1
      have hgl := lt_of_blk H16.out.k1
      go_wp2_with fail
      refine (C8.out _ H16.out.rd).mono ?_
      rintro e w17 ⟨v17, rfl, o17, b17⟩
      obtain ⟨A17, c17, rfl, _⟩ := own_form o17
      have H17 : Hid (T7 wo w.heap.size g (x1, y1) (.slice Ap p.length cp) p (.slice Ao m co) o w17 ∧ Reads encN (.slice A17 N1.length c17) N1 w17) := ⟨H16.out.then_ b17, readsN_own o17⟩
      clear b17 o17 H16 C8 c0 c1 hgl
      go_upto_if 117 with (fail)
      go_cut [20, 21] (fun v20 v21 wd => v21 = .int .i64 N2 ∧ ∃ (A20 : Option Addr) (c20 : Nat), v20 = .slice A20 N1.length c20 ∧ Hid (T7 wo w.heap.size g (x1, y1) (.slice Ap p.length cp) p (.slice Ao m co) o wd ∧ Reads encN (.slice A17 N1.length c17) N1 wd ∧ Reads encN (.slice A20 N1.length c20) N1 wd))
      case first => as_aux_lemma =>
        by_cases h1 : E0 = 0
        · obtain ⟨rfl, rfl⟩ := Prod.mk.inj (HNV.out.1 h1)
          have C9' := Lib.hid (C9.out h1)
          have HE0' : Hid (tErr 500 (x1, y1) p = 0) := HE0.out.trans h1
          clear C9 HNV HE0
          subst h1
          obtain ⟨c0, c1, _, _⟩ := blk2 H17.out.1.k1
          have hgl := lt_of_blk H17.out.1.k1
          go_wp2_with fail
          refine (C9'.out _ H17.out.1.rd).mono ?_
          rintro e w18 ⟨v18, rfl, o18, b18⟩
          rw [← HN2.out] at o18
          obtain ⟨A18, c18, rfl, _⟩ := own_form o18
          have H18 := Lib.hid (And.intro (H17.out.1.then_ b18) (And.intro (H17.out.2.below b18) (readsN_own o18)))
          clear b18 o18 H17 C9' c0 c1 hgl
          go_wp2_with fail
          go_meet
          exact ⟨rfl, A18, c18, rfl, H18.out⟩
        · obtain ⟨rfl, rfl⟩ := Prod.mk.inj (HNV.out.2 h1)
          have h1b : (E0 == 0) = false := by simpa using h1
          clear h1
          go_wp2_with fail
          go_meet
          exact ⟨rfl, none, 0, rfl, H17.out.1, H17.out.2, nil_readsN _⟩
      case rest =>
        obtain ⟨rfl, A20, c20, rfl, H18⟩ := hcut
        clear H17 C9 HNV HN2
        have s1 : (E0 != E0) = false := by simp
        have s3 : (N2 != N2) = false := by simp
        go_wp2_with fail
        refine (eqN_any N1 (by have := HNL.out; omega) H18.out.2.1 H18.out.2.2).mono ?_
        rintro e w19 ⟨rfl, b19⟩
        have H19 := Lib.hid (H18.out.1.then_ b19)
        clear b19 H18 s1 s3
        have C10 := Lib.hid (fun (W : World) (h1 : Reads encP (.slice Ap p.length cp) p W) => tourShortest_any (x1, y1) p (by omega) h1)
        have C11 := Lib.hid (fun (W : World) (h : Reads encP (.slice Ap p.length cp) p W) => tourFault_any (x1, y1) p (by omega) 9 h)
        have C12 := Lib.hid (fun (h : tErr 9 (x1, y1) p = 0) (W : World) (h1 : Reads encP (.slice Ap p.length cp) p W) => shortestRef_any (x1, y1) p (tErr_ok h).1 (tErr_ok h).2.2 (by omega) W h1)
        have HSV : Hid ((tErr 9 (x1, y1) p = 0 → shortV (x1, y1) p = shortL (x1, y1) p ∧ (shortL (x1, y1) p).1.length = p.length) ∧ (¬ tErr 9 (x1, y1) p = 0 → shortV (x1, y1) p = ([], 0))) := ⟨fun h => ⟨if_pos h, (short_found (tErr_ok h).1 (tErr_ok h).2.2 (by omega)).2⟩, fun h => if_neg h⟩
        obtain ⟨E9, hE9⟩ : ∃ x, tErr 9 (x1, y1) p = x := ⟨_, rfl⟩
        rw [hE9] at C10 C11 C12 HSV
        clear hE9
        generalize shortL (x1, y1) p = SL at *
        obtain ⟨SV, hSV⟩ : ∃ x, shortV (x1, y1) p = x := ⟨_, rfl⟩
        rw [hSV] at C10 HSV
        clear hSV
        obtain ⟨S1, S2⟩ := SV
        dsimp only at C10 C11 C12
        obtain ⟨c0, c1, _, _⟩ := blk2 H19.out.k1
        have hgl := lt_of_blk H19.out.k1
        go_wp2_with fail
        refine (C10.out _ H19.out.rd).mono ?_
        rintro e w20 ⟨v20, rfl, o20, b20⟩
        obtain ⟨A21, c21, rfl, _⟩ := own_form o20
        have H20 : Hid (T7 wo w.heap.size g (x1, y1) (.slice Ap p.length cp) p (.slice Ao m co) o w20 ∧ Reads encN (.slice A21 S1.length c21) S1 w20) := ⟨H19.out.then_ b20, readsN_own o20⟩
        clear b20 o20 H19 C10 c0 c1 hgl
        obtain ⟨c0, c1, _, _⟩ := blk2 H20.out.1.k1
        have hgl := lt_of_blk H20.out.1.k1
        go_wp2_with fail
        refine (C11.out _ H20.out.1.rd).mono ?_
        rintro e w21 ⟨rfl, b21⟩
        have H21 := Lib.hid (And.intro (H20.out.1.then_ b21) (H20.out.2.below b21))
        clear b21 H20 C11 c0 c1 hgl
        by_cases h9 : E9 = 0
        · have C12' := Lib.hid (C12.out h9)
          obtain ⟨hh, hSl⟩ := HSV.out.1 h9
          subst hh
          subst h9
          clear C12 HSV
          have HSl := Lib.hid hSl
          clear hSl
          dsimp only at HSl C12'
          by_cases h6 : 6 < p.length
          · have h6b : (6 : Int) < (p.length : Int) := by omega
            have hsp : ((S1.length : Int) == (p.length : Int)) = true := by rw [HSl.out]; simp
            go_wp2_with fail
            refine (toured_any _).mono ?_
            rintro e w22 ⟨rfl, b22⟩
            have H22 := Lib.hid (H21.out.1.then_ b22)
            clear b22 H21
            go_wp2_with fail
            go_ret
            exact ⟨rfl, HKB.out _ H22.out.tk.2⟩
          · have h6b : ¬ (6 : Int) < (p.length : Int) := by omega
            obtain ⟨c0, c1, _, _⟩ := blk2 H21.out.1.k1
            have hgl := lt_of_blk H21.out.1.k1
            go_wp2_with fail
            refine (C12'.out _ H21.out.1.rd).mono ?_
            rintro e w22 ⟨v22, rfl, o22, b22⟩
            obtain ⟨A22, c22, rfl, _⟩ := own_form o22
            have H22 := Lib.hid (And.intro (H21.out.1.then_ b22) (And.intro (H21.out.2.below b22) (readsN_own o22)))
            clear b22 o22 H21 C12' c0 c1 hgl
            have s3 : (S2 == S2) = true := by simp
            go_wp2_with fail
            refine (eqN_any S1 (by have := HSl.out; omega) H22.out.2.1 H22.out.2.2).mono ?_
            rintro e w23 ⟨rfl, b23⟩
            have H23 := Lib.hid (H22.out.1.then_ b23)
            clear b23 H22
            go_wp2_with fail
            refine (toured_any _).mono ?_
            rintro e w24 ⟨rfl, b24⟩
            have H24 := Lib.hid (H23.out.then_ b24)
            clear b24 H23
            go_wp2_with fail
            go_ret
            exact ⟨rfl, HKB.out _ H24.out.tk.2⟩
        · obtain ⟨rfl, rfl⟩ := Prod.mk.inj (HSV.out.2 h9)
          have h9b : (E9 == 0) = false := by simpa using h9
          have h9c : (E9 != 0) = true := by simpa using h9
          clear h9 C12 HSV
          go_wp2_with fail
          refine (toured_any _).mono ?_
          rintro e w22 ⟨rfl, b22⟩
          have H22 := Lib.hid (H21.out.1.then_ b22)
          clear b22 H21
          go_wp2_with fail
          go_ret
          exact ⟨rfl, HKB.out _ H22.out.tk.2⟩
end Go.Proofs.Ytbkbjljkfhahbaa
