/-
  The walk of the law SetupsCompared.
-/
import Derived.Test.YtjmjmijjdgolfaaSeW
namespace Go.Proofs.Ytjmjmijjdgolfaa
open Go.RowKit
set_option linter.unusedSimpArgs false
set_option linter.unusedVariables false

/-- What is made: two setups, parts, and the parts of one board. -/
def Sc (base : Nat) (va : Value) (la : List ByteArray) (vb : Value) (lb : List ByteArray) (vp : Value) (Lp : List (List ByteArray)) (vq : Value) (lq : List ByteArray) (W : World) : Prop :=
  ReadsF base encS va la W ∧ ReadsF base encS vb lb W ∧ ListsF base vp Lp W ∧ ReadsF base encS vq lq W
theorem Sc.below {base : Nat} {va : Value} {la : List ByteArray} {vb : Value} {lb : List ByteArray} {vp : Value} {Lp : List (List ByteArray)} {vq : Value} {lq : List ByteArray} {W W' : World} (h : Sc base va la vb lb vp Lp vq lq W) (hb : Below W.heap.size W W') : Sc base va la vb lb vp Lp vq lq W' :=
  ⟨h.1.below hb, h.2.1.below hb, h.2.2.1.below hb, h.2.2.2.below hb⟩
theorem kept_belowC {sb : Nat} {w w' : World} {o : Obj} (hs : sb = w.heap.size) (h : Kept sb (w.alloc o) w') : Below w.heap.size w w' := by
  subst hs
  obtain ⟨a, b, c⟩ := h.outer
  refine ⟨a, b, c, by have := h.more; simp at this; omega, fun k hk => ?_⟩
  exact (h.old k (by simp; omega) (by omega)).trans (Below.heap_alloc w o k hk)
theorem blkS_take {w : World} {g c n : Nat} {l : List ByteArray} {base : Nat} {t : TypeId} (hn : n ≤ l.length) (hc : n ≤ c) (h : w.heap[g]? = some (.cells (l.map Value.string).toArray t (0, 0))) (hb : base ≤ g) : ReadsF base encS (.slice (some ⟨g, 0, none⟩) n c) (l.take n) w := by
  have e : (l.take n).length = n := by rw [List.length_take]; omega
  refine ⟨_, c, by rw [e], by rw [e]; exact hc, .inr ⟨g, rfl, hb, lt_of_blk h, fun j u hu => ?_⟩⟩
  rw [cell_of_blk h]
  rw [show (l.take n).flatMap encS = (l.take n).map Value.string from flatS_map _, List.map_take] at hu
  have : (l.map Value.string)[j]? = some u := by
    rw [List.getElem?_take] at hu
    split at hu
    · exact hu
    · cases hu
  simpa using this

theorem okL_len {α : Type} (e : Int) (l : List α) : (okL e l).length ≤ l.length := by
  unfold okL
  split
  · exact Nat.le_refl _
  · simp
/-- What stands behind the calls of the program. -/
def Sd (w : World) (base : Nat) (va : Value) (la : List ByteArray) (vb : Value) (lb : List ByteArray) (vp : Value) (Lp : List (List ByteArray)) (vq : Value) (lq : List ByteArray) (v10 : Value) (l1 : List ByteArray) (v12 : Value) (l2 : List (Nat × ByteArray × ByteArray)) (W : World) : Prop :=
  Below w.heap.size w W ∧ Sc base va la vb lb vp Lp vq lq W ∧ ReadsF 0 encS v10 l1 W ∧ ReadsF 0 encC v12 l2 W
theorem Sd.below {w : World} {base : Nat} {va : Value} {la : List ByteArray} {vb : Value} {lb : List ByteArray} {vp : Value} {Lp : List (List ByteArray)} {vq : Value} {lq : List ByteArray} {v10 : Value} {l1 : List ByteArray} {v12 : Value} {l2 : List (Nat × ByteArray × ByteArray)} {W W' : World} (h : Sd w base va la vb lb vp Lp vq lq v10 l1 v12 l2 W) (hb : Below W.heap.size W W') : Sd w base va la vb lb vp Lp vq lq v10 l1 v12 l2 W' :=
  ⟨h.1.then_below hb h.1.size, h.2.1.below hb, h.2.2.1.below hb, h.2.2.2.below hb⟩
theorem line_ints (w : World) (l : List Int) {t : TypeId} : LineAt (w.alloc (.cells (l.map (Value.int .i64)).toArray t)) w.heap.size (l.map (Value.int .i64)) := by
  refine ⟨by simp, fun j u hu => ?_⟩
  rw [cell_of_blk (blk_new w _ rfl)]
  simpa using hu
theorem set_pos {a : List ByteArray} (h : setErr a = 0) : 1 ≤ a.length ∧ a.length ≤ 100 := by
  have hs := setErr_ok h
  refine ⟨?_, hs.2.1⟩
  rcases Nat.eq_zero_or_pos a.length with h0 | h0
  · exact absurd (List.length_eq_zero_iff.mp h0) hs.1
  · exact h0
theorem errs_one (a q : List ByteArray) (m : Int) (hm : m = max 1 (min (a.length : Int) 100)) : errsL [setErr a, partsErr m [q]] = chkErr a [q] := by
  unfold errsL errsL errsL chkErr
  by_cases h : setErr a = 0
  · have := set_pos h
    obtain rfl : m = (a.length : Int) := by omega
    rw [if_pos h, if_pos h]
    split
    · rename_i h2; rw [h2]
    · rfl
  · rw [if_neg h, if_neg h]
theorem errs_two (a b : List ByteArray) (is : Bool) (hi : is = true ↔ a.length ≠ b.length) : errsL [setErr a, setErr b, whenE is 3] = twoErr a b := by
  unfold errsL errsL errsL errsL twoErr whenE
  by_cases h : setErr a = 0
  · rw [if_pos h, if_pos h]
    by_cases h2 : setErr b = 0
    · rw [if_pos h2, if_pos h2]
      by_cases h3 : a.length = b.length
      · have : ¬ is = true := fun h => hi.mp h h3
        rw [if_pos h3, if_neg this]
        simp
      · rw [if_neg h3, if_pos (hi.mpr h3)]
        simp
    · rw [if_neg h2, if_neg h2]
  · rw [if_neg h, if_neg h]
theorem two_ok {a b : List ByteArray} (h : twoErr a b = 0) : a.length = b.length := by
  unfold twoErr at h
  split at h
  · split at h
    · split at h
      · assumption
      · cases h
    · rename_i h1 h2; exact absurd h h2
  · rename_i h1; exact absurd h h1

set_option maxRecDepth 100000 in
set_option maxHeartbeats 4000000 in
theorem lawC_any (A0 : Option Addr) (n c0 : Nat) (w : World) (hc : n ≤ c0) (hm : c0 ≤ 9223372036854775807) (hA : IntsAt w A0 n w.heap.size) :
    Calls Try.prog 4 #[.slice A0 n c0] w fun e w' => e = .returned (.bool true) ∧ Below w.heap.size w w' := by
  have hs0 : IsStream (w.alloc (.cells #[.slice A0 n c0, .int .i64 0] 25)) w.heap.size 0 := by
    refine ⟨A0, n, c0, 0, hc, hm, Nat.le_refl _, blk_new w _ rfl, fun hn => ?_⟩
    obtain ⟨ad, e, h1, h2, h3⟩ := hA hn
    refine ⟨ad, e, by simp; omega, h2, fun k hk => ?_⟩
    obtain ⟨x, hx⟩ := h3 k hk
    exact ⟨x, ((((Below.refl w.heap.size w).alloc (Nat.le_refl _) _).cell (by rw [addr_block]; exact h1))).trans hx⟩
  obtain ⟨wo, hwo⟩ : ∃ wo, wo = w.alloc (.cells #[.slice A0 n c0, .int .i64 0] 25) := ⟨_, rfl⟩
  have HWO : Hid (Below w.heap.size w wo ∧ w.heap.size < wo.heap.size) := ⟨by rw [hwo]; exact (Below.refl _ _).alloc (Nat.le_refl _) _, by rw [hwo]; simp⟩
  have HW := Lib.hid hwo
  rw [← hwo] at hs0
  clear hwo
  have H0 := Lib.hid (Took.refl hs0)
  have hwz := HWO.out.2
  go_enter Try.func4, Try.ntmps4
  go_upto_region 2 with (fail)
  rw [← HW.out]
  have CR := Lib.hid (range_any w.heap.size 0 1 4 wo (by omega) (by omega) (by omega) (by omega) H0.out.1)
  go_wp2_with fail
  refine CR.out.mono ?_
  rintro e w1 ⟨z0, hz0, hz1, rfl, t1⟩
  obtain ⟨z, rfl⟩ := Int.eq_ofNat_of_zero_le (Int.le_trans (by omega) hz0)
  have H1 : Hid (Took w.heap.size 1 wo w1) := H0.out.trans t1
  have hzz : 1 ≤ z ∧ z ≤ 4 := by omega
  clear t1 CR hz0 hz1
  have CA := Lib.hid (asetup_any w.heap.size 1 z w1 (by omega) (by omega) H1.out.1)
  go_wp2_with fail
  refine CA.out.mono ?_
  rintro e w2 ⟨va, la, rfl, hla, t2, r2⟩
  have H2 : Hid (Took w.heap.size 21 wo w2 ∧ ReadsF wo.heap.size encS va la w2) := ⟨H1.out.trans t2, r2.least H1.out.size⟩
  clear t2 CA r2 H1
  have CP := Lib.hid (pick_lit w.heap.size 21 [z, z, z + 1] w2 w2.heap.size 3 rfl (by omega) (by omega) rfl (by omega) H2.out.1.1)
  go_wp2_with fail
  refine CP.out.mono ?_
  rintro e w3 ⟨x, hx, rfl, t3⟩
  obtain ⟨m, rfl, hm5⟩ : ∃ m : Nat, x = m ∧ m ≤ 5 := by
    simp only [List.mem_cons, List.not_mem_nil, or_false] at hx
    exact ⟨x.toNat, by omega, by omega⟩
  have H3 : Hid (Took w.heap.size 22 wo w3 ∧ ReadsF wo.heap.size encS va la w3) := ⟨H2.out.1.trans t3, H2.out.2.kept t3.2 HWO.out.2⟩
  clear t3 CP hx H2
  have CA := Lib.hid (asetup_any w.heap.size 22 m w3 (by omega) (by omega) H3.out.1.1)
  go_wp2_with fail
  refine CA.out.mono ?_
  rintro e w4 ⟨vb, lb, rfl, hlb, t4, r4⟩
  have H4 : Hid (Took w.heap.size 42 wo w4 ∧ ReadsF wo.heap.size encS va la w4 ∧ ReadsF wo.heap.size encS vb lb w4) := ⟨H3.out.1.trans t4, H3.out.2.kept t4.2 HWO.out.2, r4.least H3.out.1.size⟩
  clear t4 CA r4 H3
  have CP := Lib.hid (pick_lit w.heap.size 42 [z, z, 0, 101] w4 w4.heap.size 4 rfl (by omega) (by omega) rfl (by omega) H4.out.1.1)
  go_wp2_with fail
  refine CP.out.mono ?_
  rintro e w5 ⟨sl, hsl, rfl, t5⟩
  have H5 : Hid (Took w.heap.size 43 wo w5 ∧ ReadsF wo.heap.size encS va la w5 ∧ ReadsF wo.heap.size encS vb lb w5) := ⟨H4.out.1.trans t5, H4.out.2.1.kept t5.2 HWO.out.2, H4.out.2.2.kept t5.2 HWO.out.2⟩
  clear t5 CP hsl H4 hm5
  have CL := Lib.hid (plists_any w.heap.size 43 z 4 w5 (by omega) (by omega) (by omega) H5.out.1.1)
  go_wp2_with fail
  refine CL.out.mono ?_
  rintro e w6 ⟨vp, Lp, rfl, hLp, hLe, t6, r6⟩
  have H6 : Hid (Took w.heap.size 143 wo w6 ∧ ReadsF wo.heap.size encS va la w6 ∧ ReadsF wo.heap.size encS vb lb w6 ∧ ListsF wo.heap.size vp Lp w6) := ⟨H5.out.1.trans t6, H5.out.2.1.kept t6.2 HWO.out.2, H5.out.2.2.kept t6.2 HWO.out.2, r6.least H5.out.1.size⟩
  have HLE := Lib.hid hLe
  clear t6 CL r6 H5 hLe
  obtain ⟨w7, hw7⟩ : ∃ w7, w7 = w6.alloc (.cells #[.string ⟨#[97]⟩, .string ⟨#[99]⟩] 9) := ⟨_, rfl⟩
  have H7 : Hid (Took w.heap.size 143 wo w7 ∧ ReadsF wo.heap.size encS va la w7 ∧ ReadsF wo.heap.size encS vb lb w7 ∧ ListsF wo.heap.size vp Lp w7 ∧ w7.heap[w6.heap.size]? = some (.cells #[.string ⟨#[97]⟩, .string ⟨#[99]⟩] 9 (0, 0))) := by
    have hb : Below w6.heap.size w6 w7 := by rw [hw7]; exact (Below.refl _ _).alloc (Nat.le_refl _) _
    exact ⟨H6.out.1.below hb, H6.out.2.1.below hb, H6.out.2.2.1.below hb, H6.out.2.2.2.below hb, by rw [hw7]; exact blk_new w6 _ rfl⟩
  have hg6 : wo.heap.size ≤ w6.heap.size := H6.out.1.size
  have HW7 := Lib.hid hw7
  clear H6 hw7
  have CN := Lib.hid (next_any w.heap.size 143 3 w7 (by omega) (by omega) (by omega) H7.out.1.1)
  go_upto_region 5 with (fail)
  go_wp2_with fail
  rw [← HW7.out]
  refine CN.out.mono ?_
  rintro e w8 ⟨q, hq0, hq1, rfl, t8⟩
  obtain ⟨k, rfl⟩ := Int.eq_ofNat_of_zero_le hq0
  have hk3 : k < 3 := by omega
  have H8 : Hid (Took w.heap.size 144 wo w8 ∧ ReadsF wo.heap.size encS va la w8 ∧ ReadsF wo.heap.size encS vb lb w8 ∧ ListsF wo.heap.size vp Lp w8 ∧ w8.heap[w6.heap.size]? = some (.cells #[.string ⟨#[97]⟩, .string ⟨#[99]⟩] 9 (0, 0))) :=
    ⟨H7.out.1.trans t8, H7.out.2.1.kept t8.2 HWO.out.2, H7.out.2.2.1.kept t8.2 HWO.out.2, H7.out.2.2.2.1.kept t8.2 HWO.out.2, t8.2.blk H7.out.2.2.2.2 (by omega)⟩
  clear t8 CN hq0 hq1 H7 HW7
  obtain ⟨A8, c8, rfl, hc8, hr8⟩ := H8.out.2.2.2.1
  have HR8 := Lib.hid hr8
  clear hr8
  go_upto_if 53 with (fail)
  go_cut [9] (fun v9 wc => ∃ lq : List ByteArray, lq.length ≤ 7 ∧ wo.heap.size ≤ wc.heap.size ∧ Hid (Below w.heap.size w wc ∧ Sc wo.heap.size va la vb lb (.slice A8 Lp.length c8) Lp v9 lq wc))
  case first =>
    have HB8 : Hid (Below w.heap.size w w8) := kept_belowC rfl (by rw [← HW.out]; exact H8.out.1.2)
    by_cases h0 : 0 < Lp.length
    · obtain ⟨g, o, rfl, hg, hgl, hcs⟩ : ∃ g o : Nat, A8 = some ⟨g, o, none⟩ ∧ wo.heap.size ≤ g ∧ g < w8.heap.size ∧ ∀ j (h : j < Lp.length), ∃ u, w8.cell? ⟨g, o + j, none⟩ = some u ∧ ReadsF wo.heap.size encS u Lp[j] w8 := by
        rcases HR8.out with h | h
        · subst h; simp at h0
        · exact h
      obtain ⟨u, cq, hu⟩ := hcs 0 h0
      simp only [Nat.add_zero] at cq
      have i2 : (0 : Int) < (Lp.length : Int) := by omega
      have HU := Lib.hid hu
      clear hcs hu HR8
      go_wp2_with fail
      go_meet
      exact ⟨Lp[0], HLE.out _ (List.getElem_mem _), H8.out.1.size, HB8.out, H8.out.2.1, H8.out.2.2.1, H8.out.2.2.2.1, HU.out⟩
    · go_wp2_with fail
      go_meet
      exact ⟨[⟨#[97]⟩, ⟨#[99]⟩].take k, by rw [List.length_take]; simp; omega, H8.out.1.size, HB8.out, H8.out.2.1, H8.out.2.2.1, H8.out.2.2.2.1, blkS_take (t := 9) (l := [⟨#[97]⟩, ⟨#[99]⟩]) (by simp; omega) (by omega) H8.out.2.2.2.2 hg6⟩
  case rest =>
    clear H8 HR8 hc8 hg6
    obtain ⟨lq, hlq, hz3, HC⟩ := hcut
    have CM := Lib.hid (missing_any (s := la) (l := lq) (by omega) (by omega) HC.out.2.1 HC.out.2.2.2.2 hz3)
    have C1 := Lib.hid (fun (W : World) (h : Sc wo.heap.size va la vb lb (.slice A8 Lp.length c8) Lp u9 lq W) => changesP_any (by omega) (by omega) h.1 h.2.1)
    have C2 := Lib.hid (fun (W : World) (h : Sc wo.heap.size va la vb lb (.slice A8 Lp.length c8) Lp u9 lq W) => loadsP_any (by omega) (by omega) h.1 h.2.1)
    have C3 := Lib.hid (fun (W : World) (h : Sc wo.heap.size va la vb lb (.slice A8 Lp.length c8) Lp u9 lq W) => setupFault_any (by omega) h.1)
    have C4 := Lib.hid (fun (W : World) (h : Sc wo.heap.size va la vb lb (.slice A8 Lp.length c8) Lp u9 lq W) => setupFault_any (by omega) h.2.1)
    have C5 := Lib.hid (fun (W : World) (m : Int) (v : Value) (h : ListsF 0 v [lq] W) => partsFault_any m (by simp) (by simp; omega) h)
    have C6 := Lib.hid (fun (W : World) (h : Sc wo.heap.size va la vb lb (.slice A8 Lp.length c8) Lp u9 lq W) => missOfR_any (by omega) (by omega) h.1 h.2.2.2)
    have C7 := Lib.hid (fun (W : World) (hab : la.length = lb.length) (h : Sc wo.heap.size va la vb lb (.slice A8 Lp.length c8) Lp u9 lq W) => changesOf_any (by omega) hab h.1 h.2.1)
    have C8 := Lib.hid (fun (W : World) (hab : la.length = lb.length) (h : Sc wo.heap.size va la vb lb (.slice A8 Lp.length c8) Lp u9 lq W) => loadsR_any (by omega) hab h.1 h.2.1)
    have C9 := Lib.hid (fun (W : World) (h : Sc wo.heap.size va la vb lb (.slice A8 Lp.length c8) Lp u9 lq W) => checkSetup_any (by omega) h.1)
    have C10 := Lib.hid (fun (W : World) (h : Sc wo.heap.size va la vb lb (.slice A8 Lp.length c8) Lp u9 lq W) => checkParts_any sl (by omega) (fun l hl => by have := HLE.out l hl; omega) h.2.2.1)
    have C11 := Lib.hid (fun (W : World) (h : Sc wo.heap.size va la vb lb (.slice A8 Lp.length c8) Lp u9 lq W) => partsFault_any sl (by omega) (fun l hl => by have := HLE.out l hl; omega) h.2.2.1)
    have HE1 := Lib.hid (errs_one la lq)
    have HE2 := Lib.hid (errs_two la lb)
    have HO := Lib.hid (@two_ok la lb)
    have HM1 : Hid ((missOf la lq).length ≤ 2000000) := by
      have := List.length_filter_le (fun x => !has la x) lq
      exact Nat.le_trans this (by omega)
    have HM2 : Hid ((chgOf la lb).length ≤ 2000000) := Nat.le_trans (chgK_len la lb la.length) (by omega)
    obtain ⟨Aa, ca, rfl, hca, _⟩ := HC.out.2.1
    obtain ⟨Ab, cb, rfl, hcb, _⟩ := HC.out.2.2.1
    obtain ⟨Aq, cq, rfl, hcq, _⟩ := HC.out.2.2.2.2
    generalize chkErr la [lq] = E1 at *
    generalize twoErr la lb = E2 at *
    generalize setErr la = F1 at *
    generalize setErr lb = F2 at *
    generalize missOf la lq = M1 at *
    generalize chgOf la lb = M2 at *
    generalize loadsOf la lb = M3 at *
    go_wp2_with fail
    refine CM.out.mono ?_
    rintro e w1 ⟨v10, rfl, hb, hr⟩
    have H1 := Lib.hid (And.intro (HC.out.1.then_below hb HC.out.1.size) (And.intro (HC.out.2.below hb) hr))
    clear hb hr CM HC
    go_wp2_with fail
    refine (C1.out _ H1.out.2.1).mono ?_
    rintro e w2 ⟨v12, rfl, hb, hr⟩
    have H2 := Lib.hid (And.intro (H1.out.1.then_below hb H1.out.1.size) (And.intro (H1.out.2.1.below hb) (And.intro (H1.out.2.2.below hb) hr)))
    clear hb hr H1 C1
    go_wp2_with fail
    refine (C2.out _ H2.out.2.1).mono ?_
    rintro e w3 ⟨rfl, hb⟩
    have H3 : Hid (Sd w wo.heap.size (.slice Aa la.length ca) la (.slice Ab lb.length cb) lb (.slice A8 Lp.length c8) Lp (.slice Aq lq.length cq) lq v10 (okL E1 M1) v12 (okL E2 M2) w3) :=
      ⟨H2.out.1.then_below hb H2.out.1.size, H2.out.2.1.below hb, (H2.out.2.2.1.below hb).least (Nat.zero_le _), (H2.out.2.2.2.below hb).least (Nat.zero_le _)⟩
    clear hb H2 C2
    go_wp2_with fail
    refine (C3.out _ H3.out.2.1).mono ?_
    rintro e w4 ⟨rfl, rfl⟩
    clear C3
    have HQ3 : Hid (ListsF 0 (.slice (some ⟨w3.heap.size, 0, none⟩) 1 1) [lq] (w3.alloc (.cells #[.slice Aq lq.length cq] 51))) := listsF_one (blk_new w3 _ rfl) (Nat.zero_le _) ((H3.out.2.1.2.2.2.least (Nat.zero_le _)).below ((Below.refl _ _).alloc (Nat.le_refl _) _))
    have H4 := Lib.hid (H3.out.below ((Below.refl _ _).alloc (Nat.le_refl _) (.cells #[.slice Aq lq.length cq] 51)))
    go_wp2_with fail
    refine (C5.out _ _ _ HQ3.out).mono ?_
    rintro e w4 ⟨rfl, rfl⟩
    clear H3 HQ3 C5
    generalize w3.alloc (.cells #[.slice Aq lq.length cq] 51) = w4 at *
    have HLN : Hid (LineAt (w4.alloc (.cells #[.int .i64 F1, .int .i64 (partsErr (max 1 (min (la.length : Int) 100)) [lq])] 31)) w4.heap.size ([F1, partsErr (max 1 (min (la.length : Int) 100)) [lq]].map (Value.int .i64))) := line_ints w4 [F1, partsErr (max 1 (min (la.length : Int) 100)) [lq]]
    have H5 := Lib.hid (H4.out.below ((Below.refl _ _).alloc (Nat.le_refl _) (.cells #[.int .i64 F1, .int .i64 (partsErr (max 1 (min (la.length : Int) 100)) [lq])] 31)))
    go_wp2_with fail
    refine (errs_any [F1, partsErr (max 1 (min (la.length : Int) 100)) [lq]] (by simp) w4.heap.size 2 _ HLN.out).mono ?_
    rw [HE1.out _ rfl]
    rintro e w5 ⟨rfl, rfl⟩
    clear HE1 HLN H4
    generalize w4.alloc (.cells #[.int .i64 F1, .int .i64 (partsErr (max 1 (min (la.length : Int) 100)) [lq])] 31) = w5 at *
    go_wp2_with fail
    refine (C4.out _ H5.out.2.1).mono ?_
    rintro e w4 ⟨rfl, rfl⟩
    clear C4
    go_wp2_with fail
    refine (lawWhen_any _ 3 _).mono ?_
    rintro e w4 ⟨rfl, rfl⟩
    have HLN : Hid (LineAt (w5.alloc (.cells #[.int .i64 F1, .int .i64 F2, .int .i64 (whenE ((la.length : Int) != (lb.length : Int)) 3)] 31)) w5.heap.size ([F1, F2, whenE ((la.length : Int) != (lb.length : Int)) 3].map (Value.int .i64))) := line_ints w5 [F1, F2, whenE ((la.length : Int) != (lb.length : Int)) 3]
    have H6 := Lib.hid (H5.out.below ((Below.refl _ _).alloc (Nat.le_refl _) (.cells #[.int .i64 F1, .int .i64 F2, .int .i64 (whenE ((la.length : Int) != (lb.length : Int)) 3)] 31)))
    go_wp2_with fail
    refine (errs_any [F1, F2, whenE ((la.length : Int) != (lb.length : Int)) 3] (by simp) w5.heap.size 3 _ HLN.out).mono ?_
    rw [HE2.out _ (by simp; omega)]
    rintro e w6 ⟨rfl, rfl⟩
    clear HE2 HLN H5
    generalize w5.alloc (.cells #[.int .i64 F1, .int .i64 F2, .int .i64 (whenE ((la.length : Int) != (lb.length : Int)) 3)] 31) = w6 at *
    go_upto_if 99 with (fail)
    go_cut [19] (fun v19 wc => Hid (Sd w wo.heap.size (.slice Aa la.length ca) la (.slice Ab lb.length cb) lb (.slice A8 Lp.length c8) Lp (.slice Aq lq.length cq) lq v10 (okL E1 M1) v12 (okL E2 M2) wc ∧ ReadsF 0 encS v19 (okL E1 M1) wc))
    case first =>
      by_cases h0 : E1 = 0
      · subst h0
        go_wp2_with fail
        refine (C6.out _ H6.out.2.1).mono ?_
        rintro e w7 ⟨v19, rfl, hb, hr⟩
        have H7 := Lib.hid (And.intro (H6.out.below hb) (hr.least (Nat.zero_le _)))
        clear hb hr
        go_wp2_with fail
        go_meet
        exact ⟨H7.out.1, by rw [okL_ok rfl]; exact H7.out.2⟩
      · have hne : (E1 == 0) = false := by simpa using h0
        go_wp2_with fail
        go_meet
        exact ⟨H6.out, by rw [okL_bad h0]; exact readsF_nil _ _ _⟩
    case rest =>
      clear H6 C6
      have H7 := hcut
      clear hcut
      go_upto_if 104 with (fail)
      go_cut [20, 21] (fun v20 v21 wd => v21 = .int .i64 (okN E2 M3) ∧ Hid (Sd w wo.heap.size (.slice Aa la.length ca) la (.slice Ab lb.length cb) lb (.slice A8 Lp.length c8) Lp (.slice Aq lq.length cq) lq v10 (okL E1 M1) v12 (okL E2 M2) wd ∧ ReadsF 0 encS u19 (okL E1 M1) wd ∧ ReadsF 0 encC v20 (okL E2 M2) wd))
      case first =>
        by_cases h0 : E2 = 0
        · have hab := HO.out h0
          have D7 := Lib.hid (fun W => C7.out W hab)
          have D8 := Lib.hid (fun W => C8.out W hab)
          subst h0
          clear hab C7 C8 HO
          go_wp2_with fail
          refine (D7.out _ H7.out.1.2.1).mono ?_
          rintro e w7 ⟨v20, rfl, hb, hr⟩
          have H8 := Lib.hid (And.intro (H7.out.1.below hb) (And.intro (H7.out.2.below hb) ((readsF_own hr).least (Nat.zero_le _))))
          clear hb hr
          go_wp2_with fail
          refine (D8.out _ H8.out.1.2.1).mono ?_
          rintro e w8 ⟨rfl, hb⟩
          have H9 := Lib.hid (And.intro (H8.out.1.below hb) (And.intro (H8.out.2.1.below hb) (H8.out.2.2.below hb)))
          clear hb
          go_wp2_with fail
          go_meet
          exact ⟨by rw [okN_ok rfl], H9.out.1, H9.out.2.1, by rw [okL_ok rfl]; exact H9.out.2.2⟩
        · have hne : (E2 == 0) = false := by simpa using h0
          go_wp2_with fail
          go_meet
          exact ⟨by rw [okN_bad h0]; rfl, H7.out.1, H7.out.2, by rw [okL_bad h0]; exact readsF_nil _ _ _⟩
      case rest =>
        clear H7 C7 C8 HO
        obtain ⟨rfl, H8⟩ := hcut
        go_wp2_with fail
        refine (C9.out _ H8.out.1.2.1).mono ?_
        rintro e w7 ⟨rfl, rfl⟩
        go_wp2_with fail
        refine (C10.out _ H8.out.1.2.1).mono ?_
        rintro e w7 ⟨rfl, rfl⟩
        go_wp2_with fail
        refine (C11.out _ H8.out.1.2.1).mono ?_
        rintro e w7 ⟨rfl, rfl⟩
        go_wp2_with fail
        refine (equalStr_any _ (Nat.le_trans (okL_len E1 M1) HM1.out) _ _ _ H8.out.1.2.2.1.reads H8.out.2.1.reads).mono ?_
        rintro e w7 ⟨rfl, hb⟩
        have H9 := Lib.hid (And.intro (H8.out.1.below hb) (H8.out.2.2.below hb))
        clear hb H8
        go_wp2_with fail
        refine (equalChg_any _ (Nat.le_trans (okL_len E2 M2) HM2.out) H9.out.1.2.2.2 H9.out.2).mono ?_
        rintro e w8 ⟨rfl, hb⟩
        have H10 := Lib.hid (H9.out.1.1.then_below hb H9.out.1.1.size)
        clear hb H9
        go_wp2_with fail
        refine (loaded_any _).mono ?_
        rintro e w9 ⟨rfl, hb⟩
        have HF := Lib.hid (H10.out.then_below hb H10.out.size)
        clear hb H10
        go_wp2_with fail
        go_ret
        exact ⟨rfl, HF.out⟩
end Go.Proofs.Ytjmjmijjdgolfaa
