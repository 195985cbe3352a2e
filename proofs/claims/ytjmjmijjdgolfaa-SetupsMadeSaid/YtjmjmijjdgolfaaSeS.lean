/-
  The walk of the law SetupsMade.
-/
import Derived.Test.YtjmjmijjdgolfaaSeX
import Derived.Test.YtjmjmijjdgolfaaSeZ
namespace Go.Proofs.Ytjmjmijjdgolfaa
open Go.RowKit
set_option linter.unusedSimpArgs false
set_option linter.unusedVariables false

/-- What is made: a setup, parts of products, those of the first one and of the others. -/
def Sm (base : Nat) (va : Value) (la : List ByteArray) (vp : Value) (Lp : List (List ByteArray)) (vq : Value) (lq : List ByteArray) (vr : Value) (Lr : List (List ByteArray)) (W : World) : Prop :=
  ReadsF base encS va la W ∧ ListsF base vp Lp W ∧ ReadsF base encS vq lq W ∧ ListsF base vr Lr W
theorem Sm.below {base : Nat} {va : Value} {la : List ByteArray} {vp : Value} {Lp : List (List ByteArray)} {vq : Value} {lq : List ByteArray} {vr : Value} {Lr : List (List ByteArray)} {W W' : World} (h : Sm base va la vp Lp vq lq vr Lr W) (hb : Below W.heap.size W W') : Sm base va la vp Lp vq lq vr Lr W' :=
  ⟨h.1.below hb, h.2.1.below hb, h.2.2.1.below hb, h.2.2.2.below hb⟩
/-- What stands behind the calls of the program. -/
def Sn (w : World) (base : Nat) (va : Value) (la : List ByteArray) (vp : Value) (Lp : List (List ByteArray)) (vq : Value) (lq : List ByteArray) (vr : Value) (Lr : List (List ByteArray)) (v9 : Value) (l1 : List ByteArray) (v11 : Value) (l2 : List (List ByteArray)) (W : World) : Prop :=
  Below w.heap.size w W ∧ Sm base va la vp Lp vq lq vr Lr W ∧ ReadsF 0 encS v9 l1 W ∧ ListsF 0 v11 l2 W
theorem Sn.below {w : World} {base : Nat} {va : Value} {la : List ByteArray} {vp : Value} {Lp : List (List ByteArray)} {vq : Value} {lq : List ByteArray} {vr : Value} {Lr : List (List ByteArray)} {v9 : Value} {l1 : List ByteArray} {v11 : Value} {l2 : List (List ByteArray)} {W W' : World} (h : Sn w base va la vp Lp vq lq vr Lr v9 l1 v11 l2 W) (hb : Below W.heap.size W W') : Sn w base va la vp Lp vq lq vr Lr v9 l1 v11 l2 W' :=
  ⟨h.1.then_below hb h.1.size, h.2.1.below hb, h.2.2.1.below hb, h.2.2.2.below hb⟩
theorem okS_len {la : List ByteArray} {Lp : List (List ByteArray)} (hl : la.length ≤ 101) : ∀ l ∈ okL (chkErr la Lp) (setupsOf la Lp), l.length ≤ 100000 := fun l h => by
  by_cases h0 : chkErr la Lp = 0
  · rw [okL_ok h0] at h
    have ho := chkErr_ok h0
    have := setupsOf_mem ho.1 (fun l hl => (ho.2.2 l hl).2) l h
    omega
  · rw [okL_bad h0] at h
    cases h

theorem lists_tail {base g o c : Nat} {L : List (List ByteArray)} {w : World} (hg : base ≤ g) (hgl : g < w.heap.size) (hcs : ∀ j (h : j < L.length), ∃ u, w.cell? ⟨g, o + j, none⟩ = some u ∧ ReadsF base encS u L[j] w) (h0 : 0 < L.length) (hc : L.length ≤ c) :
    ListsF base (.slice (if c = 1 then some ⟨g, o, none⟩ else some ⟨g, o + 1, none⟩) (L.length - 1) (c - 1)) L.tail w := by
  refine ⟨_, c - 1, by rw [List.length_tail], by rw [List.length_tail]; omega, ?_⟩
  by_cases h1 : c = 1
  · exact .inl (List.length_eq_zero_iff.mp (by rw [List.length_tail]; omega))
  · rw [if_neg h1]
    refine .inr ⟨g, o + 1, rfl, hg, hgl, fun j hj => ?_⟩
    rw [List.length_tail] at hj
    obtain ⟨u, a, b⟩ := hcs (j + 1) (by omega)
    refine ⟨u, by rw [show o + 1 + j = o + (j + 1) by omega]; exact a, ?_⟩
    rw [List.getElem_tail]
    exact b

set_option maxRecDepth 100000 in
set_option maxHeartbeats 4000000 in
theorem lawM_any (A0 : Option Addr) (n c0 : Nat) (w : World) (hc : n ≤ c0) (hm : c0 ≤ 9223372036854775807) (hA : IntsAt w A0 n w.heap.size) :
    Calls Try.prog 5 #[.slice A0 n c0] w fun e w' => e = .returned (.bool true) ∧ Below w.heap.size w w' := by
  have hs0 : IsStream (w.alloc (.cells #[.slice A0 n c0, .int .i64 0] 25)) w.heap.size 0 := by
    refine ⟨A0, n, c0, 0, hc, hm, Nat.le_refl _, blk_new w _ rfl, fun hn => ?_⟩
    obtain ⟨ad, e, h1, h2, h3⟩ := hA hn
    refine ⟨ad, e, by simp; omega, h2, fun k hk => ?_⟩
    obtain ⟨x, hx⟩ := h3 k hk
    exact ⟨x, ((((Below.refl w.heap.size w).alloc (Nat.le_refl _) _).cell (by rw [addr_block]; exact h1))).trans hx⟩
  obtain ⟨wo, hwo⟩ : ∃ wo, wo = w.alloc (.cells #[.slice A0 n c0, .int .i64 0] 25) := ⟨_, rfl⟩
  have HWO : Hid (Below w.heap.size w wo ∧ w.heap.size < wo.heap.size) := ⟨by rw [hwo]; exact (Below.refl _ _).alloc (Nat.le_refl _) _, by rw [hwo]; simp⟩
  have HW := Lib.hid hwo
  rw [← hwo] at hs0
  clear hwo
  have H0 := Lib.hid (Took.refl hs0)
  have hwz := HWO.out.2
  go_enter Try.func5, Try.ntmps5
  go_upto_region 2 with (fail)
  rw [← HW.out]
  have CR := Lib.hid (range_any w.heap.size 0 1 4 wo (by omega) (by omega) (by omega) (by omega) H0.out.1)
  go_wp2_with fail
  refine CR.out.mono ?_
  rintro e w1 ⟨z0, hz0, hz1, rfl, t1⟩
  obtain ⟨z, rfl⟩ := Int.eq_ofNat_of_zero_le (Int.le_trans (by omega) hz0)
  have H1 : Hid (Took w.heap.size 1 wo w1) := H0.out.trans t1
  have hzz : 1 ≤ z ∧ z ≤ 4 := by omega
  clear t1 CR hz0 hz1
  have CA := Lib.hid (asetup_any w.heap.size 1 z w1 (by omega) (by omega) H1.out.1)
  go_wp2_with fail
  refine CA.out.mono ?_
  rintro e w2 ⟨va, la, rfl, hla, t2, r2⟩
  have H2 : Hid (Took w.heap.size 21 wo w2 ∧ ReadsF wo.heap.size encS va la w2) := ⟨H1.out.trans t2, r2.least H1.out.size⟩
  clear t2 CA r2 H1
  have CL := Lib.hid (plists_any w.heap.size 21 z 6 w2 (by omega) (by omega) (by omega) H2.out.1.1)
  go_wp2_with fail
  refine CL.out.mono ?_
  rintro e w3 ⟨vp, Lp, rfl, hLp, hLe, t3, r3⟩
  have H3 : Hid (Took w.heap.size 121 wo w3 ∧ ReadsF wo.heap.size encS va la w3 ∧ ListsF wo.heap.size vp Lp w3) := ⟨H2.out.1.trans t3, H2.out.2.kept t3.2 HWO.out.2, r3.least H2.out.1.size⟩
  have HLE := Lib.hid hLe
  clear t3 CL r3 H2 hLe
  obtain ⟨A6, c6, rfl, hc6, hr6⟩ := H3.out.2.2
  have HR6 := Lib.hid hr6
  clear hr6
  go_upto_if 33 with (fail)
  go_cut [7, 8] (fun v7 v8 wc => ∃ (lq : List ByteArray) (Lr : List (List ByteArray)), lq.length ≤ 7 ∧ Lr.length ≤ 6 ∧ (∀ l ∈ Lr, l.length ≤ 7) ∧ wo.heap.size ≤ wc.heap.size ∧ Hid (Below w.heap.size w wc ∧ Sm wo.heap.size va la (.slice A6 Lp.length c6) Lp v7 lq v8 Lr wc))
  case first =>
    have HB3 : Hid (Below w.heap.size w w3) := kept_belowC rfl (by rw [← HW.out]; exact H3.out.1.2)
    by_cases h0 : 0 < Lp.length
    · obtain ⟨g, o, rfl, hg, hgl, hcs⟩ : ∃ g o : Nat, A6 = some ⟨g, o, none⟩ ∧ wo.heap.size ≤ g ∧ g < w3.heap.size ∧ ∀ j (h : j < Lp.length), ∃ u, w3.cell? ⟨g, o + j, none⟩ = some u ∧ ReadsF wo.heap.size encS u Lp[j] w3 := by
        rcases HR6.out with h | h
        · subst h; simp at h0
        · exact h
      obtain ⟨u, cq, hu⟩ := hcs 0 h0
      simp only [Nat.add_zero] at cq
      have i2 : (0 : Int) < (Lp.length : Int) := by omega
      have HU := Lib.hid hu
      have HCS := Lib.hid hcs
      clear hcs hu HR6
      go_wp2_with fail
      go_quiet (fail)
      have HD : Below w3.heap.size w3 (w3.drewN nq) := (Below.refl _ _).drawN nq
      have HT := Lib.hid ((lists_tail hg hgl HCS.out h0 hc6).below HD)
      have HD := Lib.hid HD
      generalize (if c6 = 1 then some (⟨g, o, none⟩ : Addr) else some ⟨g, o + 1, none⟩) = a8 at *
      generalize w3.drewN nq = w4 at *
      go_wp2_with fail
      go_meet
      exact ⟨Lp[0], Lp.tail, HLE.out _ (List.getElem_mem _), by rw [List.length_tail]; omega, fun l hl => HLE.out l (List.mem_of_mem_tail hl), Nat.le_trans H3.out.1.size HD.out.size, HB3.out.then_below HD.out HB3.out.size, H3.out.2.1.below HD.out, H3.out.2.2.below HD.out, HU.out.below HD.out, HT.out⟩
    · go_wp2_with fail
      go_meet
      exact ⟨[], [], by simp, by simp, by simp, H3.out.1.size, HB3.out, H3.out.2.1, H3.out.2.2, readsF_nil _ _ _, ⟨none, 0, rfl, Nat.le_refl _, .inl rfl⟩⟩
  case rest =>
    clear H3 HR6 hc6
    obtain ⟨lq, Lr, hlq, hLr, hlr, hz3, HC⟩ := hcut
    have HLR := Lib.hid hlr
    clear hlr
    have D1 := Lib.hid (fun (W : World) (h : Sm wo.heap.size va la (.slice A6 Lp.length c6) Lp u7 lq u8 Lr W) => next_exp (s := la) (parts := lq) (later := Lr) (by omega) (by omega) (fun l hl => by
      rcases List.mem_cons.mp hl with rfl | hl
      · omega
      · have := HLR.out l hl; omega) h.1 h.2.2.1 h.2.2.2)
    have D2 := Lib.hid (fun (W : World) (h : Sm wo.heap.size va la (.slice A6 Lp.length c6) Lp u7 lq u8 Lr W) => setupsP_any (by omega) (by omega) (fun l hl => by have := HLE.out l hl; omega) h.1 h.2.1)
    have D3 := Lib.hid (fun (W : World) (h : Sm wo.heap.size va la (.slice A6 Lp.length c6) Lp u7 lq u8 Lr W) => total_any (by omega) (by omega) (fun l hl => by have := HLE.out l hl; omega) h.1 h.2.1)
    have D4 := Lib.hid (fun (W : World) (v : Value) (h : Sm wo.heap.size va la (.slice A6 Lp.length c6) Lp u7 lq u8 Lr W) (h2 : ListsF 0 v ([lq] ++ Lr) W) => setsFault_any (s := la) (p := lq :: Lr) (by omega) (by simp; omega) (fun l hl => by
      rcases List.mem_cons.mp hl with rfl | hl
      · omega
      · have := HLR.out l hl; omega) h.1 h2)
    have D5 := Lib.hid (fun (W : World) (h : Sm wo.heap.size va la (.slice A6 Lp.length c6) Lp u7 lq u8 Lr W) => setsFault_any (by omega) (by omega) (fun l hl => by have := HLE.out l hl; omega) h.1 h.2.1)
    have D6 := Lib.hid (fun (W : World) (hE : chkErr la (lq :: Lr) = 0) (h : Sm wo.heap.size va la (.slice A6 Lp.length c6) Lp u7 lq u8 Lr W) => nextR_any (chkErr_ok hE).1 ((chkErr_ok hE).2.2 lq (by simp)).2 ((chkErr_ok hE).2.2 lq (by simp)).1 (by omega) (fun l hl => by have := HLR.out l hl; omega) (fun l hl => ((chkErr_ok hE).2.2 l (by simp [hl])).2) h.1 h.2.2.1 h.2.2.2)
    have D7 := Lib.hid (fun (W : World) (hE : chkErr la Lp = 0) (h : Sm wo.heap.size va la (.slice A6 Lp.length c6) Lp u7 lq u8 Lr W) => setupsR_any (chkErr_ok hE).1 (chkErr_ok hE).2.1 (chkErr_ok hE).2.2 h.1 h.2.1)
    have D8 := Lib.hid (fun (W : World) (hE : chkErr la Lp = 0) (h : Sm wo.heap.size va la (.slice A6 Lp.length c6) Lp u7 lq u8 Lr W) => totalR_any (chkErr_ok hE).1 (chkErr_ok hE).2.1 (chkErr_ok hE).2.2 h.1 h.2.1)
    have HM1 : Hid ((nextOf la lq Lr).length ≤ 2000000) := by
      have := nextOf_length la lq Lr
      show _ ≤ _
      omega
    have HM2 : Hid ((setupsOf la Lp).length ≤ 100000) := by
      have := setupsOf_len Lp la
      show _ ≤ _
      omega
    have HM3 := Lib.hid (okS_len (la := la) (Lp := Lp) hla)
    obtain ⟨Aa, ca, rfl, hca, _⟩ := HC.out.2.1
    obtain ⟨Aq, cq, rfl, hcq, _⟩ := HC.out.2.2.2.1
    obtain ⟨Ar, cr, rfl, hcr, _⟩ := HC.out.2.2.2.2
    have CC := Lib.hid (fun (W : World) (g g1 : Nat) (hg : W.heap[g]? = some (.cells #[.slice (some ⟨g1, 0, none⟩) 1 1, .slice Ar Lr.length cr] 54 (0, 0))) (h1 : ListsF 0 (.slice (some ⟨g1, 0, none⟩) 1 1) [lq] W) (h2 : ListsF 0 (.slice Ar Lr.length cr) Lr W) => concat_any hg h1 h2 (by simp) (by simp; omega))
    generalize chkErr la (lq :: Lr) = E1 at *
    generalize chkErr la Lp = E2 at *
    generalize nextOf la lq Lr = M1 at *
    generalize setupsOf la Lp = M2 at *
    generalize totalOf la Lp = M3 at *
    go_wp2_with fail
    refine (D1.out _ HC.out.2).mono ?_
    rintro e w1 ⟨v9, rfl, hb, hr⟩
    have H1 := Lib.hid (And.intro (HC.out.1.then_below hb HC.out.1.size) (And.intro (HC.out.2.below hb) hr))
    clear hb hr D1 HC
    go_wp2_with fail
    refine (D2.out _ H1.out.2.1).mono ?_
    rintro e w2 ⟨v11, rfl, hb, hr⟩
    have H2 : Hid (Sn w wo.heap.size (.slice Aa la.length ca) la (.slice A6 Lp.length c6) Lp (.slice Aq lq.length cq) lq (.slice Ar Lr.length cr) Lr v9 (okL E1 M1) v11 (okL E2 M2) w2) :=
      ⟨H1.out.1.then_below hb H1.out.1.size, H1.out.2.1.below hb, (H1.out.2.2.below hb).least (Nat.zero_le _), hr.least (Nat.zero_le _)⟩
    clear hb hr D2 H1
    go_wp2_with fail
    refine (D3.out _ H2.out.2.1).mono ?_
    rintro e w3 ⟨rfl, hb⟩
    have H3 := Lib.hid (H2.out.below hb)
    clear hb D3 H2
    go_wp2_with fail
    have HBX : Below w3.heap.size w3 ((w3.alloc (.cells #[.slice Aq lq.length cq] 51)).alloc (.cells #[.slice (some ⟨w3.heap.size, 0, none⟩) 1 1, .slice Ar Lr.length cr] 54)) := ((Below.refl _ _).alloc (Nat.le_refl _) _).alloc (by simp) _
    have H4 := Lib.hid (H3.out.below HBX)
    have HX : Hid (((w3.alloc (.cells #[.slice Aq lq.length cq] 51)).alloc (.cells #[.slice (some ⟨w3.heap.size, 0, none⟩) 1 1, .slice Ar Lr.length cr] 54)).heap[w3.heap.size + 1]? = some (.cells #[.slice (some ⟨w3.heap.size, 0, none⟩) 1 1, .slice Ar Lr.length cr] 54 (0, 0))) := blk_new _ _ (by simp)
    have HY : Hid (ListsF 0 (.slice (some ⟨w3.heap.size, 0, none⟩) 1 1) [lq] ((w3.alloc (.cells #[.slice Aq lq.length cq] 51)).alloc (.cells #[.slice (some ⟨w3.heap.size, 0, none⟩) 1 1, .slice Ar Lr.length cr] 54))) := listsF_one (blk_alloc (blk_new w3 _ rfl) _) (Nat.zero_le _) ((H3.out.2.1.2.2.1.least (Nat.zero_le _)).below HBX)
    clear HBX H3
    refine (CC.out _ _ _ HX.out HY.out (H4.out.2.1.2.2.2.least (Nat.zero_le _))).mono ?_
    rintro e w4 ⟨v63, rfl, hb, hr⟩
    have H5 := Lib.hid (And.intro (H4.out.below hb) hr)
    clear hb hr H4 HX HY CC
    generalize (w3.alloc (.cells #[.slice Aq lq.length cq] 51)).alloc (.cells #[.slice (some ⟨w3.heap.size, 0, none⟩) 1 1, .slice Ar Lr.length cr] 54) = wx at *
    go_wp2_with fail
    refine (D4.out _ _ H5.out.1.2.1 H5.out.2).mono ?_
    rintro e w5 ⟨rfl, rfl⟩
    have H6 := Lib.hid H5.out.1
    clear H5 D4
    go_wp2_with fail
    refine (D5.out _ H6.out.2.1).mono ?_
    rintro e w5 ⟨rfl, rfl⟩
    clear D5
    go_upto_if 69 with (fail)
    go_cut [17] (fun v17 wc => Hid (Sn w wo.heap.size (.slice Aa la.length ca) la (.slice A6 Lp.length c6) Lp (.slice Aq lq.length cq) lq (.slice Ar Lr.length cr) Lr v9 (okL E1 M1) v11 (okL E2 M2) wc ∧ ReadsF 0 encS v17 (okL E1 M1) wc))
    case first =>
      by_cases h0 : E1 = 0
      · have F6 := Lib.hid (fun W => D6.out W h0)
        subst h0
        clear D6
        go_wp2_with fail
        refine (F6.out _ H6.out.2.1).mono ?_
        rintro e w7 ⟨v17, rfl, hb, hr⟩
        have H7 := Lib.hid (And.intro (H6.out.below hb) ((own_strs hr).least (Nat.zero_le _)))
        clear hb hr
        go_wp2_with fail
        go_meet
        exact ⟨H7.out.1, by rw [okL_ok rfl]; exact H7.out.2⟩
      · have hne : (E1 == 0) = false := by simpa using h0
        go_wp2_with fail
        go_meet
        exact ⟨H6.out, by rw [okL_bad h0]; exact readsF_nil _ _ _⟩
    case rest =>
      clear H6 D6
      have H7 := hcut
      clear hcut
      go_upto_if 75 with (fail)
      go_cut [18, 19] (fun v18 v19 wd => v19 = .int .i64 (okN E2 M3) ∧ Hid (Sn w wo.heap.size (.slice Aa la.length ca) la (.slice A6 Lp.length c6) Lp (.slice Aq lq.length cq) lq (.slice Ar Lr.length cr) Lr v9 (okL E1 M1) v11 (okL E2 M2) wd ∧ ReadsF 0 encS u17 (okL E1 M1) wd ∧ ListsF 0 v18 (okL E2 M2) wd))
      case first =>
        by_cases h0 : E2 = 0
        · have F7 := Lib.hid (fun W => D7.out W h0)
          have F8 := Lib.hid (fun W => D8.out W h0)
          subst h0
          clear D7 D8
          go_wp2_with fail
          refine (F7.out _ H7.out.1.2.1).mono ?_
          rintro e w7 ⟨v20, rfl, hb, hr⟩
          have H8 := Lib.hid (And.intro (H7.out.1.below hb) (And.intro (H7.out.2.below hb) (hr.least (Nat.zero_le _))))
          clear hb hr
          go_wp2_with fail
          refine (F8.out _ H8.out.1.2.1).mono ?_
          rintro e w8 ⟨rfl, hb⟩
          have H9 := Lib.hid (And.intro (H8.out.1.below hb) (And.intro (H8.out.2.1.below hb) (H8.out.2.2.below hb)))
          clear hb
          go_wp2_with fail
          go_meet
          exact ⟨by rw [okN_ok rfl], H9.out.1, H9.out.2.1, by rw [okL_ok rfl]; exact H9.out.2.2⟩
        · have hne : (E2 == 0) = false := by simpa using h0
          go_wp2_with fail
          go_meet
          exact ⟨by rw [okN_bad h0]; rfl, H7.out.1, H7.out.2, by rw [okL_bad h0]; exact ⟨none, 0, rfl, Nat.le_refl _, .inl rfl⟩⟩
      case rest =>
        clear H7 D7 D8
        obtain ⟨rfl, H8⟩ := hcut
        go_wp2_with fail
        refine (equalStr_any _ (Nat.le_trans (okL_len E1 M1) HM1.out) _ _ _ H8.out.1.2.2.1.reads H8.out.2.1.reads).mono ?_
        rintro e w7 ⟨rfl, hb⟩
        have H9 := Lib.hid (And.intro (H8.out.1.below hb) (H8.out.2.2.below hb))
        clear hb H8
        go_wp2_with fail
        refine (equalLists_any _ (Nat.le_trans (okL_len E2 M2) HM2.out) HM3.out H9.out.1.2.2.2 H9.out.2).mono ?_
        rintro e w8 ⟨rfl, hb⟩
        have H10 := Lib.hid (H9.out.1.1.then_below hb H9.out.1.1.size)
        clear hb H9
        go_wp2_with fail
        refine (loaded_any _).mono ?_
        rintro e w9 ⟨rfl, hb⟩
        have HF := Lib.hid (H10.out.then_below hb H10.out.size)
        clear hb H10
        go_wp2_with fail
        go_ret
        exact ⟨rfl, HF.out⟩
end Go.Proofs.Ytjmjmijjdgolfaa
