/-
  The walk of the law BoardsMove.
-/
import Derived.Test.YtiooimfkobjpkaaLnL
import Derived.Test.YtiooimfkobjpkaaLnV
import Derived.Test.YtiooimfkobjpkaaLnU
import Derived.Test.YtiooimfkobjpkaaLnZ
namespace Go.Proofs.Ytiooimfkobjpkaa
open Go.RowKit
set_option linter.unusedSimpArgs false
set_option linter.unusedVariables false

theorem line_two : leaveL [10, 30] [0] 2 = [40, 70] := by
  have h00 : lv [10, 30] [0] 0 0 = 10 := by rw [lv_eq]; simp [dn, cm, from_, bef, rm, bufN] <;> omega
  have h01 : lv [10, 30] [0] 0 1 = 40 := by rw [lv_eq]; simp [dn, cm, from_, bef, rm, bufN, h00] <;> omega
  have h10 : lv [10, 30] [0] 1 0 = 40 := by rw [lv_eq]; simp [dn, cm, from_, bef, rm, bufN, h00, h01] <;> omega
  have h11 : lv [10, 30] [0] 1 1 = 70 := by rw [lv_eq]; simp [dn, cm, from_, bef, rm, bufN, h00, h01, h10] <;> omega
  show [lv [10, 30] [0] 0 1, lv [10, 30] [0] 1 1] = _
  rw [h01, h11]
theorem line_lit {w : World} {g : Nat} {l : List Int} {t : TypeId} {n : Nat} (hn : n = l.length) (h : w.heap[g]? = some (.cells (l.map (Value.int .i64)).toArray t (0, 0))) : Reads encN (.slice (some ⟨g, 0, none⟩) n n) l w := reads_ints hn h

set_option maxHeartbeats 2000000 in
theorem lined_any (w : World) : Calls Try.prog 22 #[] w fun e w' => e = .returned (.bool true) ∧ Below w.heap.size w w' := by
  have HA : Hid (Below w.heap.size w ((w.alloc (.cells #[.int .i64 10, .int .i64 30] 3)).alloc (.cells #[.int .i64 0] 3)) ∧ Reads encN (.slice (some ⟨w.heap.size, 0, none⟩) 2 2) [10, 30] ((w.alloc (.cells #[.int .i64 10, .int .i64 30] 3)).alloc (.cells #[.int .i64 0] 3)) ∧ Reads encN (.slice (some ⟨w.heap.size + 1, 0, none⟩) 1 1) [0] ((w.alloc (.cells #[.int .i64 10, .int .i64 30] 3)).alloc (.cells #[.int .i64 0] 3))) :=
    ⟨((Below.refl _ _).alloc (Nat.le_refl _) _).alloc (by simp) _, line_lit (l := [10, 30]) rfl (blk_alloc (blk_new w _ rfl) _), line_lit (l := [0]) rfl (blk_new _ _ (by simp))⟩
  go_enter Try.func22, Try.ntmps22
  go_wp2_with fail
  generalize (w.alloc (.cells #[.int .i64 10, .int .i64 30] 3)).alloc (.cells #[.int .i64 0] 3) = w2 at *
  have CL := leave_any [10, 30] [0] 2 (by simp) (by simp) HA.out.2.1 HA.out.2.2
  have hE : bErr [10, 30] [0] 2 = 0 := by decide
  rw [show leaveV [10, 30] [0] 2 = [40, 70] from (if_pos hE).trans line_two, hE] at CL
  refine CL.mono ?_
  rintro e w3 ⟨v, rfl, hv, b3⟩
  obtain ⟨A, c, rfl, hc, hr⟩ := hv
  rcases hr with hr | ⟨gl, rfl, _, hrow⟩
  · cases hr
  have q1 := row_n hrow (k := 1) (by decide)
  have hgl := hrow.1
  have HB : Hid (Below w.heap.size w w3) := HA.out.1.then_below b3 HA.out.1.size
  clear b3 hrow CL hE hc
  simp at q1
  go_wp2_with fail
  go_ret
  exact ⟨rfl, HB.out⟩

theorem kept_belowL {sb : Nat} {w w' : World} {o : Obj} (hs : sb = w.heap.size) (h : Kept sb (w.alloc o) w') : Below w.heap.size w w' := by
  subst hs
  obtain ⟨a, b, c⟩ := h.outer
  refine ⟨a, b, c, by have := h.more; simp at this; omega, fun k hk => ?_⟩
  exact (h.old k (by simp; omega) (by omega)).trans (Below.heap_alloc w o k hk)

/-- The stream, and the two rows. -/
structure T8 (wo : World) (sb : Nat) (v1 : Value) (cs : List Int) (v2 : Value) (bs : List Int) (W : World) : Prop where
  tk : Took sb 90 wo W
  r1 : Reads encN v1 cs W
  r2 : Reads encN v2 bs W
theorem T8.then_ {wo : World} {sb : Nat} {v1 v2 : Value} {cs bs : List Int} {W W' : World} (h : T8 wo sb v1 cs v2 bs W) (hb : Below W.heap.size W W') : T8 wo sb v1 cs v2 bs W' :=
  ⟨h.tk.below hb, h.r1.below hb, h.r2.below hb⟩
/-- A row that is read, and that does not lie in a block. -/
def ReadsX (q : Nat) (v : Value) (l : List Int) (W : World) : Prop := ∃ A c, v = .slice A l.length c ∧ (l = [] ∨ ∃ g : Nat, A = some ⟨g, 0, none⟩ ∧ g ≠ q ∧ LineAt W g (l.flatMap encN))
theorem ReadsX.below {q : Nat} {v : Value} {l : List Int} {W W' : World} (h : ReadsX q v l W) (hb : Below W.heap.size W W') : ReadsX q v l W' := by
  obtain ⟨A, c, e, h⟩ := h
  refine ⟨A, c, e, h.imp_right ?_⟩
  rintro ⟨g, e, hq, h⟩
  exact ⟨g, e, hq, h.below hb⟩
theorem ReadsX.reads {q : Nat} {v : Value} {l : List Int} {W : World} (h : ReadsX q v l W) : Reads encN v l W := by
  obtain ⟨A, c, e, h⟩ := h
  refine ⟨A, c, e, h.imp_right ?_⟩
  rintro ⟨g, e, hq, h⟩
  exact ⟨g, e, h⟩
theorem ReadsX.set {q : Nat} {v : Value} {l : List Int} {W : World} (h : ReadsX q v l W) (i : Nat) (u : Value) : ReadsX q v l (W.setCell ⟨q, i, none⟩ u) := by
  obtain ⟨A, c, e, h⟩ := h
  refine ⟨A, c, e, h.imp_right ?_⟩
  rintro ⟨g, e, hq, h⟩
  exact ⟨g, e, hq, by simpa [World.setCell] using h.1, fun j x hx => (cell_farS (q := ⟨g, j, none⟩) (p := ⟨q, i, none⟩) hq u).trans (h.2 j x hx)⟩
theorem readsX_new {v : Value} {l : List Int} {W : World} (h : Reads encN v l W) {q : Nat} (hq : W.heap.size ≤ q) : ReadsX q v l W := by
  obtain ⟨A, c, e, h⟩ := h
  refine ⟨A, c, e, h.imp_right ?_⟩
  rintro ⟨g, e, h⟩
  exact ⟨g, e, by have := h.1; omega, h⟩
theorem readsX_old {v : Value} {l : List Int} {W : World} {B : Nat} (h : ReadsF B encN v l W) {q : Nat} (hq : q < B) : ReadsX q v l W := by
  obtain ⟨A, c, e, _, h⟩ := h
  refine ⟨A, c, e, h.imp_right ?_⟩
  rintro ⟨g, e, h0, h⟩
  exact ⟨g, e, by omega, h⟩
theorem rateV_agg (cs bs : List Int) (n : Int) : ∃ x y : Int, rateV cs bs n = .agg #[.int .i64 x, .int .i64 y] := by
  unfold rateV
  split
  · exact low_agg _ _
  · exact ⟨0, 0, rfl⟩

set_option maxRecDepth 100000 in
set_option maxHeartbeats 16000000 in
theorem lawK_any (A0 : Option Addr) (n c0 : Nat) (w : World) (hc : n ≤ c0) (hm : c0 ≤ 9223372036854775807) (hA : IntsAt w A0 n w.heap.size) :
    Calls Try.prog 4 #[.slice A0 n c0] w fun e w' => e = .returned (.bool true) ∧ Below w.heap.size w w' := by
  have hs0 : IsStream (w.alloc (.cells #[.slice A0 n c0, .int .i64 0] 25)) w.heap.size 0 := by
    refine ⟨A0, n, c0, 0, hc, hm, Nat.le_refl _, blk_new w _ rfl, fun hn => ?_⟩
    obtain ⟨ad, e, h1, h2, h3⟩ := hA hn
    refine ⟨ad, e, by simp; omega, h2, fun k hk => ?_⟩
    obtain ⟨x, hx⟩ := h3 k hk
    exact ⟨x, ((((Below.refl w.heap.size w).alloc (Nat.le_refl _) _).cell (by rw [addr_block]; exact h1))).trans hx⟩
  obtain ⟨wo, hwo⟩ : ∃ wo, wo = w.alloc (.cells #[.slice A0 n c0, .int .i64 0] 25) := ⟨_, rfl⟩
  have HWO : Hid (Below w.heap.size w wo ∧ w.heap.size < wo.heap.size) := ⟨by rw [hwo]; exact (Below.refl _ _).alloc (Nat.le_refl _) _, by rw [hwo]; simp⟩
  have HW := Lib.hid hwo
  rw [← hwo] at hs0
  clear hwo
  have H0 := Lib.hid (Took.refl hs0)
  have hwz := HWO.out.2
  have HKB : Hid (∀ W, Kept w.heap.size wo W → Below w.heap.size w W) := fun W h => kept_belowL rfl (by rw [HW.out] at h; exact h)
  go_enter Try.func4, Try.ntmps4
  go_upto_region 2 with (fail)
  rw [← HW.out]
  go_wp2_with fail
  refine (line_any w.heap.size 0 wo (by omega) H0.out.1).mono ?_
  rintro e w1 ⟨v1, v2, n1, n2, rfl, hn1, hn2, t1, ⟨cs, e1, o1⟩, ⟨bs, e2, o2⟩⟩
  subst e1 e2
  have H1 : Hid (Took w.heap.size 20 wo w1 ∧ w1.ownsRow wo.heap.size 3 1 v1 cs.length (cs.map (Value.int .i64)) ∧ w1.ownsRow wo.heap.size 3 1 v2 bs.length (bs.map (Value.int .i64))) := ⟨t1, o1, o2⟩
  clear t1 o1 o2
  obtain ⟨A1, c1, rfl, _⟩ := own_form H1.out.2.1
  obtain ⟨A2, c2, rfl, _⟩ := own_form H1.out.2.2
  go_wp2_with fail
  refine (boardNumber_any w.heap.size 20 w1 (by omega) H1.out.1.1).mono ?_
  rintro e w2 ⟨N, rfl, hN0, hN1, t2⟩
  have H2 : Hid (T8 wo w.heap.size (.slice A1 cs.length c1) cs (.slice A2 bs.length c2) bs w2) := ⟨(H1.out.1.trans t2).more (by omega), readsN_own (kept_own H1.out.2.1 t2.2 hwz), readsN_own (kept_own H1.out.2.2 t2.2 hwz)⟩
  clear t2 H1 H0 hs0 hA
  have C1 := Lib.hid (fun (W : World) (h : T8 wo w.heap.size (.slice A1 cs.length c1) cs (.slice A2 bs.length c2) bs W) => leave_any cs bs N (by omega) (by omega) h.r1 h.r2)
  have C2 := Lib.hid (fun (W : World) (h : T8 wo w.heap.size (.slice A1 cs.length c1) cs (.slice A2 bs.length c2) bs W) => blocked_any cs bs N (by omega) (by omega) h.r1 h.r2)
  have C3 := Lib.hid (fun (W : World) (h : T8 wo w.heap.size (.slice A1 cs.length c1) cs (.slice A2 bs.length c2) bs W) => rate_any cs bs N (by omega) (by omega) h.r1 h.r2)
  have C4 := Lib.hid (fun (W : World) (h : T8 wo w.heap.size (.slice A1 cs.length c1) cs (.slice A2 bs.length c2) bs W) => boardsFault_any cs bs N (by omega) (by omega) h.r1 h.r2)
  have C5 := Lib.hid (fun (m : Nat) h1 h2 h3 h4 h5 h6 (W : World) (h : T8 wo w.heap.size (.slice A1 cs.length c1) cs (.slice A2 bs.length c2) bs W) => leaveOf_any cs bs m h1 h2 h3 h4 h5 h6 h.r1 h.r2)
  have C6 := Lib.hid (fun (m : Nat) h1 h2 h3 h4 h5 h6 (W : World) (h : T8 wo w.heap.size (.slice A1 cs.length c1) cs (.slice A2 bs.length c2) bs W) => blockedOf_any cs bs m h1 h2 h3 h4 h5 h6 h.r1 h.r2)
  have HLV : Hid ((bErr cs bs N = 0 → leaveV cs bs N = leaveL cs bs N.toNat) ∧ (¬ bErr cs bs N = 0 → leaveV cs bs N = [])) := ⟨fun h => if_pos h, fun h => if_neg h⟩
  have HBV : Hid ((bErr cs bs N = 0 → blkV cs bs N = allR (blkS cs bs) cs.length N.toNat ∧ idlV cs bs N = allR (idlS cs bs) cs.length N.toNat) ∧ (¬ bErr cs bs N = 0 → blkV cs bs N = [] ∧ idlV cs bs N = [])) := ⟨fun h => ⟨if_pos h, if_pos h⟩, fun h => ⟨if_neg h, if_neg h⟩⟩
  have HRV : Hid ((bErr cs bs N = 0 → rateV cs bs N = low N (lv cs bs (N.toNat - 1) (cs.length - 1))) ∧ (¬ bErr cs bs N = 0 → rateV cs bs N = .agg #[.int .i64 0, .int .i64 0])) := ⟨fun h => if_pos h, fun h => if_neg h⟩
  have HOK := Lib.hid (@bErr_ok cs bs N)
  obtain ⟨ra, rb, hra⟩ := rateV_agg cs bs N
  rw [hra] at C3 HRV
  clear hra
  generalize leaveV cs bs N = LV at *
  generalize blkV cs bs N = BV at *
  generalize idlV cs bs N = IV at *
  generalize bErr cs bs N = E at *
  go_wp2_with fail
  refine (C1.out _ H2.out).mono ?_
  rintro e w3 ⟨x1, rfl, hx1, b3⟩
  have H3 := Lib.hid (And.intro (H2.out.then_ b3) hx1.reads)
  clear b3 hx1 H2 C1
  go_wp2_with fail
  refine (C2.out _ H3.out.1).mono ?_
  rintro e w4 ⟨x2, x3, rfl, hx2, hx3, b4⟩
  have H4 := Lib.hid (And.intro (H3.out.1.then_ b4) (And.intro (H3.out.2.below b4) (And.intro hx2 hx3)))
  clear b4 hx2 hx3 H3 C2
  go_wp2_with fail
  refine (C3.out _ H4.out.1).mono ?_
  rintro e w5 ⟨rfl, b5⟩
  have H5 : Hid (T8 wo w.heap.size (.slice A1 cs.length c1) cs (.slice A2 bs.length c2) bs (w5.alloc (.cells #[.int .i64 ra, .int .i64 rb] 57)) ∧ Reads encN x1 LV (w5.alloc (.cells #[.int .i64 ra, .int .i64 rb] 57)) ∧ Reads encN x2 BV (w5.alloc (.cells #[.int .i64 ra, .int .i64 rb] 57)) ∧ Reads encN x3 IV (w5.alloc (.cells #[.int .i64 ra, .int .i64 rb] 57)) ∧ (w5.alloc (.cells #[.int .i64 ra, .int .i64 rb] 57)).heap[w5.heap.size]? = some (.cells #[.int .i64 ra, .int .i64 rb] 57 (0, 0))) := by
    have ha : Below w5.heap.size w5 (w5.alloc (.cells #[.int .i64 ra, .int .i64 rb] 57)) := (Below.refl _ _).alloc (Nat.le_refl _) _
    exact ⟨(H4.out.1.then_ b5).then_ ha, (H4.out.2.1.below b5).below ha, (H4.out.2.2.1.below b5).below ha, (H4.out.2.2.2.below b5).below ha, blk_new w5 _ rfl⟩
  clear b5 H4 C3
  go_upto_region 7 with (fail)
  generalize w5.alloc (.cells #[.int .i64 ra, .int .i64 rb] 57) = w6 at *
  generalize w5.heap.size = gr at *
  go_wp2_with fail
  refine (C4.out _ H5.out.1).mono ?_
  rintro e w7 ⟨rfl, b7⟩
  have hzw7 := (H5.out.1.then_ b7).tk.size
  have H7 : Hid (T8 wo w.heap.size (.slice A1 cs.length c1) cs (.slice A2 bs.length c2) bs (w7.alloc (.cells #[.int .i64 0, .int .i64 0] 57)) ∧ ReadsX w7.heap.size x1 LV (w7.alloc (.cells #[.int .i64 0, .int .i64 0] 57)) ∧ ReadsX w7.heap.size x2 BV (w7.alloc (.cells #[.int .i64 0, .int .i64 0] 57)) ∧ ReadsX w7.heap.size x3 IV (w7.alloc (.cells #[.int .i64 0, .int .i64 0] 57)) ∧ (w7.alloc (.cells #[.int .i64 0, .int .i64 0] 57)).heap[gr]? = some (.cells #[.int .i64 ra, .int .i64 rb] 57 (0, 0)) ∧ (w7.alloc (.cells #[.int .i64 0, .int .i64 0] 57)).heap[w7.heap.size]? = some (.cells #[.int .i64 0, .int .i64 0] 57 (0, 0)) ∧ gr < w7.heap.size ∧ wo.heap.size ≤ w7.heap.size) := by
    have ha : Below w7.heap.size w7 (w7.alloc (.cells #[.int .i64 0, .int .i64 0] 57)) := (Below.refl _ _).alloc (Nat.le_refl _) _
    exact ⟨(H5.out.1.then_ b7).then_ ha, (readsX_new (H5.out.2.1.below b7) (Nat.le_refl _)).below ha, (readsX_new (H5.out.2.2.1.below b7) (Nat.le_refl _)).below ha, (readsX_new (H5.out.2.2.2.1.below b7) (Nat.le_refl _)).below ha, blk_below ha (blk_below b7 H5.out.2.2.2.2), blk_new w7 _ rfl, lt_of_blk (blk_below b7 H5.out.2.2.2.2), hzw7⟩
  clear b7 H5 C4
  go_upto_region 10 with (fail)
  generalize w7.alloc (.cells #[.int .i64 0, .int .i64 0] 57) = w8 at *
  generalize w7.heap.size = gz at *
  have EQ := Lib.hid (fun (l : List Int) (h : l.length ≤ 100000) (v1 v2 : Value) (W : World) h1 h2 => @eqN_any l h v1 v2 W h1 h2)
  have s1 : (E == E) = true := by simp
  by_cases hE : E = 0
  rotate_left
  · obtain ⟨rfl, rfl⟩ := HBV.out.2 hE
    obtain rfl := HLV.out.2 hE
    have hr := HRV.out.2 hE
    simp only [Value.agg.injEq, Array.mk.injEq, List.cons.injEq, Value.int.injEq, true_and, and_true] at hr
    obtain ⟨rfl, rfl⟩ := hr
    have hEb : (E == 0) = false := by simpa using hE
    clear HBV HLV HRV HOK C5 C6 hE
    go_wp2_with fail
    refine (EQ.out [] (by simp) _ _ _ H7.out.2.1.reads (nil_readsN _)).mono ?_
    rintro e w9 ⟨rfl, b9⟩
    have H9 : Hid (T8 wo w.heap.size (.slice A1 cs.length c1) cs (.slice A2 bs.length c2) bs w9 ∧ Reads encN x2 [] w9 ∧ Reads encN x3 [] w9 ∧ w9.heap[gr]? = some (.cells #[.int .i64 0, .int .i64 0] 57 (0, 0)) ∧ w9.heap[gz]? = some (.cells #[.int .i64 0, .int .i64 0] 57 (0, 0))) :=
      ⟨H7.out.1.then_ b9, H7.out.2.2.1.reads.below b9, H7.out.2.2.2.1.reads.below b9, blk_below b9 H7.out.2.2.2.2.1, blk_below b9 H7.out.2.2.2.2.2.1⟩
    clear b9 H7
    go_wp2_with fail
    refine (EQ.out [] (by simp) _ _ _ H9.out.2.1 (nil_readsN _)).mono ?_
    rintro e w10 ⟨rfl, b10⟩
    have H10 : Hid (T8 wo w.heap.size (.slice A1 cs.length c1) cs (.slice A2 bs.length c2) bs w10 ∧ Reads encN x3 [] w10 ∧ w10.heap[gr]? = some (.cells #[.int .i64 0, .int .i64 0] 57 (0, 0)) ∧ w10.heap[gz]? = some (.cells #[.int .i64 0, .int .i64 0] 57 (0, 0))) :=
      ⟨H9.out.1.then_ b10, H9.out.2.2.1.below b10, blk_below b10 H9.out.2.2.2.1, blk_below b10 H9.out.2.2.2.2⟩
    clear b10 H9
    go_wp2_with fail
    refine (EQ.out [] (by simp) _ _ _ H10.out.2.1 (nil_readsN _)).mono ?_
    rintro e w11 ⟨rfl, b11⟩
    have H11 : Hid (T8 wo w.heap.size (.slice A1 cs.length c1) cs (.slice A2 bs.length c2) bs w11) := H10.out.1.then_ b11
    obtain ⟨d0, d1, _, _⟩ := blk2 (blk_below b11 H10.out.2.2.1)
    have ld := lt_of_blk (blk_below b11 H10.out.2.2.1)
    obtain ⟨f0, f1, _, _⟩ := blk2 (blk_below b11 H10.out.2.2.2)
    have lf := lt_of_blk (blk_below b11 H10.out.2.2.2)
    clear b11 H10
    go_wp2_with fail
    refine (lined_any _).mono ?_
    rintro e w12 ⟨rfl, b12⟩
    have H12 := Lib.hid (H11.out.then_ b12)
    clear b12 H11 d0 d1 f0 f1 ld lf
    go_wp2_with fail
    go_ret
    exact ⟨rfl, HKB.out _ H12.out.tk.2⟩
  · subst hE
    obtain ⟨hc0, hbl, hbs, hn1', hn2'⟩ := HOK.out rfl
    obtain ⟨hc1', hc6, hcs⟩ := cErr_ok hc0
    obtain ⟨rfl, rfl⟩ := HBV.out.1 rfl
    obtain rfl := HLV.out.1 rfl
    have hr := HRV.out.1 rfl
    obtain ⟨m, rfl⟩ := Int.eq_ofNat_of_zero_le hN0
    obtain ⟨d, rfl⟩ : ∃ d, m = d + 1 := ⟨m - 1, by omega⟩
    have hT : (((d + 1 : Nat) : Int)).toNat = d + 1 := rfl
    rw [hT] at H7 hr
    rw [Nat.add_sub_cancel] at hr
    have hd2 : d < 2000 := by omega
    have C5' := Lib.hid (fun W h => C5.out (d + 1) hcs hc1' hc6 hbl hbs (by omega) W h)
    have C6' := Lib.hid (fun W h => C6.out (d + 1) hcs hc1' hc6 hbl hbs (by omega) W h)
    have hp := lv_pos bs hcs d (show cs.length - 1 < cs.length by omega)
    have hbd := lv_bd bs hcs d (cs.length - 1)
    have CW := Lib.hid (fun W => qlowest_any ((d + 1 : Nat) : Int) (lv cs bs d (cs.length - 1)) W (by omega) (by omega) hp (by omega))
    rw [← hr] at CW
    have HLN : Hid ((leaveL cs bs (d + 1))[d]? = some (lv cs bs d (cs.length - 1)) ∧ (leaveL cs bs (d + 1)).length = d + 1) := by
      refine ⟨?_, leaveL_len _ _ _⟩
      unfold leaveL
      simp
    have HAL : Hid ((allR (blkS cs bs) cs.length (d + 1)).length ≤ 100000 ∧ (allR (idlS cs bs) cs.length (d + 1)).length ≤ 100000) := ⟨by rw [allR_len]; omega, by rw [allR_len]; omega⟩
    have wk : IntKind.i64.wrap (((d + 1 : Nat) : Int) - 1) = (d : Int) := by rw [IntKind.wrap_i64]; omega
    have wk2 : IntKind.i64.wrap ((d : Int) + 1 - 1) = (d : Int) := by rw [IntKind.wrap_i64]; omega
    clear HBV HLV HRV HOK C5 C6 hbl hbs hn1' hn2' hcs hc0 hp hbd hr hT
    generalize lv cs bs d (cs.length - 1) = P at *
    generalize leaveL cs bs (d + 1) = LL at *
    generalize allR (blkS cs bs) cs.length (d + 1) = BB at *
    generalize allR (idlS cs bs) cs.length (d + 1) = II at *
    go_wp2_with fail
    refine (C5'.out _ H7.out.1).mono ?_
    rintro e w9 ⟨y1, rfl, hy1, b9⟩
    have hgzl := lt_of_blk H7.out.2.2.2.2.2.1
    have H9 : Hid (T8 wo w.heap.size (.slice A1 cs.length c1) cs (.slice A2 bs.length c2) bs w9 ∧ ReadsX gz x1 LL w9 ∧ ReadsX gz x2 BB w9 ∧ ReadsX gz x3 II w9 ∧ w9.heap[gr]? = some (.cells #[.int .i64 ra, .int .i64 rb] 57 (0, 0)) ∧ w9.heap[gz]? = some (.cells #[.int .i64 0, .int .i64 0] 57 (0, 0)) ∧ ReadsX gz y1 LL w9) :=
      ⟨H7.out.1.then_ b9, H7.out.2.1.below b9, H7.out.2.2.1.below b9, H7.out.2.2.2.1.below b9, blk_below b9 H7.out.2.2.2.2.1, blk_below b9 H7.out.2.2.2.2.2.1, readsX_old hy1 hgzl⟩
    have HGZ : Hid (gr ≠ gz ∧ wo.heap.size ≤ gz) := ⟨by have := H7.out.2.2.2.2.2.2.1; omega, H7.out.2.2.2.2.2.2.2⟩
    clear b9 hy1 H7 C5' hgzl
    go_wp2_with fail
    refine (C6'.out _ H9.out.1).mono ?_
    rintro e w10 ⟨y2, y3, rfl, hy2, hy3, b10⟩
    have hgzl := lt_of_blk H9.out.2.2.2.2.2.1
    have H10 : Hid (T8 wo w.heap.size (.slice A1 cs.length c1) cs (.slice A2 bs.length c2) bs w10 ∧ ReadsX gz x1 LL w10 ∧ ReadsX gz x2 BB w10 ∧ ReadsX gz x3 II w10 ∧ w10.heap[gr]? = some (.cells #[.int .i64 ra, .int .i64 rb] 57 (0, 0)) ∧ w10.heap[gz]? = some (.cells #[.int .i64 0, .int .i64 0] 57 (0, 0)) ∧ ReadsX gz y1 LL w10 ∧ ReadsX gz y2 BB w10 ∧ ReadsX gz y3 II w10) :=
      ⟨H9.out.1.then_ b10, H9.out.2.1.below b10, H9.out.2.2.1.below b10, H9.out.2.2.2.1.below b10, blk_below b10 H9.out.2.2.2.2.1, blk_below b10 H9.out.2.2.2.2.2.1, H9.out.2.2.2.2.2.2.below b10, readsX_old hy2 hgzl, readsX_old hy3 hgzl⟩
    clear b10 hy2 hy3 H9 C6' hgzl
    have hy1 := H10.out.2.2.2.2.2.2.1.reads
    obtain ⟨Ay, cy, rfl, hry⟩ := hy1
    have hll : LL.length = d + 1 := HLN.out.2
    rcases hry with rfl | ⟨gl, rfl, hrow⟩
    · simp at hll
    have q0 := row_n hrow (k := d) (by omega)
    rw [show LL[d] = P by have := HLN.out.1; rw [List.getElem?_eq_getElem (by omega)] at this; simpa using this] at q0
    have hgl := hrow.1
    have i1 : (0 : Int) ≤ (d : Int) := by omega
    have i2 : (d : Int) < (LL.length : Int) := by omega
    have hl5 : LL.length ≤ 100000 := by omega
    clear hrow hll
    go_wp2_with fail
    refine (CW.out _).mono ?_
    rintro e w11 ⟨rfl, b11⟩
    have H11 : Hid (T8 wo w.heap.size (.slice A1 cs.length c1) cs (.slice A2 bs.length c2) bs w11 ∧ ReadsX gz x1 LL w11 ∧ ReadsX gz x2 BB w11 ∧ ReadsX gz x3 II w11 ∧ w11.heap[gr]? = some (.cells #[.int .i64 ra, .int .i64 rb] 57 (0, 0)) ∧ w11.heap[gz]? = some (.cells #[.int .i64 0, .int .i64 0] 57 (0, 0)) ∧ ReadsX gz (.slice (some ⟨gl, 0, none⟩) LL.length cy) LL w11 ∧ ReadsX gz y2 BB w11 ∧ ReadsX gz y3 II w11) :=
      ⟨H10.out.1.then_ b11, H10.out.2.1.below b11, H10.out.2.2.1.below b11, H10.out.2.2.2.1.below b11, blk_below b11 H10.out.2.2.2.2.1, blk_below b11 H10.out.2.2.2.2.2.1, H10.out.2.2.2.2.2.2.1.below b11, H10.out.2.2.2.2.2.2.2.1.below b11, H10.out.2.2.2.2.2.2.2.2.below b11⟩
    clear b11 H10 CW q0 hgl
    obtain ⟨z0, z1, fz0, fz1⟩ := blk2 H11.out.2.2.2.2.2.1
    have lz := lt_of_blk H11.out.2.2.2.2.2.1
    have H12 : Hid (Took w.heap.size 90 wo ((w11.setCell ⟨gz, 0, none⟩ (.int .i64 ra)).setCell ⟨gz, 1, none⟩ (.int .i64 rb)) ∧ Reads encN x1 LL ((w11.setCell ⟨gz, 0, none⟩ (.int .i64 ra)).setCell ⟨gz, 1, none⟩ (.int .i64 rb)) ∧ Reads encN x2 BB ((w11.setCell ⟨gz, 0, none⟩ (.int .i64 ra)).setCell ⟨gz, 1, none⟩ (.int .i64 rb)) ∧ Reads encN x3 II ((w11.setCell ⟨gz, 0, none⟩ (.int .i64 ra)).setCell ⟨gz, 1, none⟩ (.int .i64 rb)) ∧ ((w11.setCell ⟨gz, 0, none⟩ (.int .i64 ra)).setCell ⟨gz, 1, none⟩ (.int .i64 rb)).heap[gr]? = some (.cells #[.int .i64 ra, .int .i64 rb] 57 (0, 0)) ∧ ((w11.setCell ⟨gz, 0, none⟩ (.int .i64 ra)).setCell ⟨gz, 1, none⟩ (.int .i64 rb)).heap[gz]? = some (.cells #[.int .i64 ra, .int .i64 rb] 57 (0, 0)) ∧ Reads encN (.slice (some ⟨gl, 0, none⟩) LL.length cy) LL ((w11.setCell ⟨gz, 0, none⟩ (.int .i64 ra)).setCell ⟨gz, 1, none⟩ (.int .i64 rb)) ∧ Reads encN y2 BB ((w11.setCell ⟨gz, 0, none⟩ (.int .i64 ra)).setCell ⟨gz, 1, none⟩ (.int .i64 rb)) ∧ Reads encN y3 II ((w11.setCell ⟨gz, 0, none⟩ (.int .i64 ra)).setCell ⟨gz, 1, none⟩ (.int .i64 rb))) :=
      ⟨(H11.out.1.tk.setCell HGZ.out.2 hwz _).setCell HGZ.out.2 hwz _, ((H11.out.2.1.set _ _).set _ _).reads, ((H11.out.2.2.1.set _ _).set _ _).reads, ((H11.out.2.2.2.1.set _ _).set _ _).reads, blk_far (blk_far H11.out.2.2.2.2.1 HGZ.out.1 _) HGZ.out.1 _, blk_set (blk_set H11.out.2.2.2.2.2.1 _) _, ((H11.out.2.2.2.2.2.2.1.set _ _).set _ _).reads, ((H11.out.2.2.2.2.2.2.2.1.set _ _).set _ _).reads, ((H11.out.2.2.2.2.2.2.2.2.set _ _).set _ _).reads⟩
    go_upto_region 14 with (fail)
    generalize (w11.setCell ⟨gz, 0, none⟩ (.int .i64 ra)).setCell ⟨gz, 1, none⟩ (.int .i64 rb) = w12 at *
    clear H11 z0 z1 fz0 fz1 lz
    go_wp2_with fail
    refine (EQ.out LL hl5 _ _ _ H12.out.2.1 H12.out.2.2.2.2.2.2.1).mono ?_
    rintro e w13 ⟨rfl, b13⟩
    have H13 : Hid (Took w.heap.size 90 wo w13 ∧ Reads encN x2 BB w13 ∧ Reads encN x3 II w13 ∧ w13.heap[gr]? = some (.cells #[.int .i64 ra, .int .i64 rb] 57 (0, 0)) ∧ w13.heap[gz]? = some (.cells #[.int .i64 ra, .int .i64 rb] 57 (0, 0)) ∧ Reads encN y2 BB w13 ∧ Reads encN y3 II w13) :=
      ⟨H12.out.1.below b13, H12.out.2.2.1.below b13, H12.out.2.2.2.1.below b13, blk_below b13 H12.out.2.2.2.2.1, blk_below b13 H12.out.2.2.2.2.2.1, H12.out.2.2.2.2.2.2.2.1.below b13, H12.out.2.2.2.2.2.2.2.2.below b13⟩
    clear b13 H12
    go_wp2_with fail
    refine (EQ.out BB HAL.out.1 _ _ _ H13.out.2.1 H13.out.2.2.2.2.2.1).mono ?_
    rintro e w14 ⟨rfl, b14⟩
    have H14 : Hid (Took w.heap.size 90 wo w14 ∧ Reads encN x3 II w14 ∧ w14.heap[gr]? = some (.cells #[.int .i64 ra, .int .i64 rb] 57 (0, 0)) ∧ w14.heap[gz]? = some (.cells #[.int .i64 ra, .int .i64 rb] 57 (0, 0)) ∧ Reads encN y3 II w14) :=
      ⟨H13.out.1.below b14, H13.out.2.2.1.below b14, blk_below b14 H13.out.2.2.2.1, blk_below b14 H13.out.2.2.2.2.1, H13.out.2.2.2.2.2.2.below b14⟩
    clear b14 H13
    go_wp2_with fail
    refine (EQ.out II HAL.out.2 _ _ _ H14.out.2.1 H14.out.2.2.2.2).mono ?_
    rintro e w15 ⟨rfl, b15⟩
    have H15 : Hid (Took w.heap.size 90 wo w15) := H14.out.1.below b15
    obtain ⟨d0, d1, _, _⟩ := blk2 (blk_below b15 H14.out.2.2.1)
    have ld := lt_of_blk (blk_below b15 H14.out.2.2.1)
    obtain ⟨f0, f1, _, _⟩ := blk2 (blk_below b15 H14.out.2.2.2.1)
    have lf := lt_of_blk (blk_below b15 H14.out.2.2.2.1)
    clear b15 H14
    go_wp2_with fail
    refine (lined_any _).mono ?_
    rintro e w16 ⟨rfl, b16⟩
    have H16 := Lib.hid (H15.out.below b16)
    clear b16 H15 d0 d1 f0 f1 ld lf
    go_wp2_with fail
    go_ret
    exact ⟨rfl, HKB.out _ H16.out.2⟩
end Go.Proofs.Ytiooimfkobjpkaa
