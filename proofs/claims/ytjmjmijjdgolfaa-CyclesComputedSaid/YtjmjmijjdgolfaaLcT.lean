/-
  The walk of the law CyclesComputed.
-/
import Derived.Test.YtjmjmijjdgolfaaLcS
import Derived.Test.YtjmjmijjdgolfaaLcR
import Derived.Test.YtjmjmijjdgolfaaLcQ
import Derived.Test.YtjmjmijjdgolfaaLcN
namespace Go.Proofs.Ytjmjmijjdgolfaa
open Go.RowKit
set_option linter.unusedSimpArgs false
set_option linter.unusedVariables false

/-- The stream, the machines, the needs, the plan. -/
structure T9 (wo : World) (sb : Nat) (v1 : Value) (ms : List Mc) (v2 : Value) (ns : List Nd) (v3 : Value) (plan : List Int) (W : World) : Prop where
  tk : Took sb 300 wo W
  ms : MsF wo.heap.size v1 ms W
  ns : Reads encD v2 ns W
  pl : Reads encN v3 plan W
theorem T9.then_ {wo : World} {sb : Nat} {v1 v2 v3 : Value} {ms : List Mc} {ns : List Nd} {plan : List Int} {W W' : World} (h : T9 wo sb v1 ms v2 ns v3 plan W) (hb : Below W.heap.size W W') : T9 wo sb v1 ms v2 ns v3 plan W' :=
  ⟨h.tk.below hb, h.ms.below hb, h.ns.below hb, h.pl.below hb⟩
theorem errs_two (a b : Int) : errsL [a, b] = thenL a b := by
  unfold thenL errsL errsL errsL
  split
  · split
    · rename_i h; exact h.symm
    · rfl
  · rfl

set_option maxRecDepth 100000 in
set_option maxHeartbeats 16000000 in
theorem lawC5_any (A0 : Option Addr) (n c0 : Nat) (w : World) (hc : n ≤ c0) (hm : c0 ≤ 9223372036854775807) (hA : IntsAt w A0 n w.heap.size) :
    Calls Try.prog 3 #[.slice A0 n c0] w fun e w' => e = .returned (.bool true) ∧ Below w.heap.size w w' := by
  have hs0 : IsStream (w.alloc (.cells #[.slice A0 n c0, .int .i64 0] 25)) w.heap.size 0 := by
    refine ⟨A0, n, c0, 0, hc, hm, Nat.le_refl _, blk_new w _ rfl, fun hn => ?_⟩
    obtain ⟨ad, e, h1, h2, h3⟩ := hA hn
    refine ⟨ad, e, by simp; omega, h2, fun k hk => ?_⟩
    obtain ⟨x, hx⟩ := h3 k hk
    exact ⟨x, ((((Below.refl w.heap.size w).alloc (Nat.le_refl _) _).cell (by rw [addr_block]; exact h1))).trans hx⟩
  obtain ⟨wo, hwo⟩ : ∃ wo, wo = w.alloc (.cells #[.slice A0 n c0, .int .i64 0] 25) := ⟨_, rfl⟩
  have HWO : Hid (Below w.heap.size w wo ∧ w.heap.size < wo.heap.size) := ⟨by rw [hwo]; exact (Below.refl _ _).alloc (Nat.le_refl _) _, by rw [hwo]; simp⟩
  have HW := Lib.hid hwo
  rw [← hwo] at hs0
  clear hwo
  have H0 := Lib.hid (Took.refl hs0)
  have hwz := HWO.out.2
  have HKB : Hid (∀ W, Kept w.heap.size wo W → Below w.heap.size w W) := fun W h => kept_belowL rfl (by rw [HW.out] at h; exact h)
  go_enter Try.func3, Try.ntmps3
  go_upto_region 2 with (fail)
  rw [← HW.out]
  go_wp2_with fail
  refine (machines_any w.heap.size 0 wo (by omega) H0.out.1).mono ?_
  rintro e w1 ⟨v1, us, rfl, hu1, hu3, t1, o1, k1⟩
  have hz1 := t1.size
  have H1 : Hid (Took w.heap.size 120 wo w1 ∧ MsB wo.heap.size v1 us w1) := ⟨t1, o1, k1⟩
  clear t1 o1 k1
  obtain ⟨A1, c1, rfl, _⟩ := own_form H1.out.2.row
  go_wp2_with fail
  refine (needList_any w.heap.size 120 w1 (by omega) H1.out.1.1).mono ?_
  rintro e w2 ⟨v2, ns, rfl, hn5, o2, t2⟩
  have H2 : Hid (Took w.heap.size 200 wo w2 ∧ MsB wo.heap.size (.slice A1 us.length c1) us w2 ∧ w2.ownsRow w1.heap.size 90 2 v2 ns.length (ns.flatMap encD)) := ⟨H1.out.1.trans t2, H1.out.2.kept t2.2 hwz, o2⟩
  clear t2 o2 H1
  obtain ⟨A2, c2, rfl, _⟩ := own_form H2.out.2.2
  go_wp2_with fail
  refine (linePlan_any w.heap.size 200 wo.heap.size w1.heap.size us ns _ _ w2 (by omega) hwz (by omega) hu1 hu3 hn5 H2.out.1.1 H2.out.2.1 H2.out.2.2).mono ?_
  rintro e w3 ⟨v3, plan, rfl, hp6, t3, o3⟩
  obtain ⟨A3, c3, rfl, _⟩ := own_form o3
  have hlen : (us.map Prod.fst).length = us.length := List.length_map _
  have H3 : Hid (T9 wo w.heap.size (.slice A1 us.length c1) (us.map Prod.fst) (.slice A2 ns.length c2) ns (.slice A3 plan.length c3) plan w3) := ⟨(H2.out.1.trans t3).more (by omega), (H2.out.2.1.kept t3.2 hwz).msF, reads_own (kept_own H2.out.2.2 t3.2 (by omega)), readsN_own o3⟩
  have hl7 : ∀ m ∈ us.map Prod.fst, m.can.length ≤ 1000000 := fun m hm => by have := H2.out.2.1.len m hm; omega
  generalize us.map Prod.fst = ms at *
  rw [← hlen] at hu1 hu3 H3 ⊢
  clear t3 o3 H2 H0 hs0 hA hlen
  have C1 := Lib.hid (fun (W : World) (h : T9 wo w.heap.size (.slice A1 ms.length c1) ms (.slice A2 ns.length c2) ns (.slice A3 plan.length c3) plan W) => cycles_any ms ns plan (by omega) hl7 (by omega) (by omega) h.ms h.ns h.pl)
  have C2 := Lib.hid (fun (W : World) (h : T9 wo w.heap.size (.slice A1 ms.length c1) ms (.slice A2 ns.length c2) ns (.slice A3 plan.length c3) plan W) => slowestP_any ms ns plan (by omega) hl7 (by omega) (by omega) h.ms h.ns h.pl)
  have C3 := Lib.hid (fun (W : World) (h : T9 wo w.heap.size (.slice A1 ms.length c1) ms (.slice A2 ns.length c2) ns (.slice A3 plan.length c3) plan W) => better_any ms ns plan (by omega) hl7 (by omega) (by omega) h.ms h.ns h.pl)
  have C4 := Lib.hid (fun (W : World) (h : T9 wo w.heap.size (.slice A1 ms.length c1) ms (.slice A2 ns.length c2) ns (.slice A3 plan.length c3) plan W) => machinesFault_any ms (by omega) hl7 h.ms)
  have C5 := Lib.hid (fun (W : World) (h : T9 wo w.heap.size (.slice A1 ms.length c1) ms (.slice A2 ns.length c2) ns (.slice A3 plan.length c3) plan W) => needsFault_any ns (by omega) h.ns)
  have C6 := Lib.hid (fun hM hN (W : World) (h : T9 wo w.heap.size (.slice A1 ms.length c1) ms (.slice A2 ns.length c2) ns (.slice A3 plan.length c3) plan W) => linePlanFault_any ms ns plan hM hN (by omega) h.ms h.ns h.pl)
  have C7 := Lib.hid (fun hM hN hP (W : World) (h : T9 wo w.heap.size (.slice A1 ms.length c1) ms (.slice A2 ns.length c2) ns (.slice A3 plan.length c3) plan W) => cyclesOf_any ms ns plan hM hN hP h.ms h.ns h.pl)
  have C8 := Lib.hid (fun hM hN hP (W : World) (h : T9 wo w.heap.size (.slice A1 ms.length c1) ms (.slice A2 ns.length c2) ns (.slice A3 plan.length c3) plan W) => slowestOf_any ms ns plan hM hN hP h.ms h.ns h.pl)
  have C9 := Lib.hid (fun hM hN hP (W : World) (h : T9 wo w.heap.size (.slice A1 ms.length c1) ms (.slice A2 ns.length c2) ns (.slice A3 plan.length c3) plan W) => betterOf_any ms ns plan hM hN hP h.ms h.ns h.pl)
  have CM := Lib.hid (fun (W : World) (h : T9 wo w.heap.size (.slice A1 ms.length c1) ms (.slice A2 ns.length c2) ns (.slice A3 plan.length c3) plan W) => checkMachines_any ms (by omega) hl7 h.ms)
  have CN := Lib.hid (fun (W : World) (h : T9 wo w.heap.size (.slice A1 ms.length c1) ms (.slice A2 ns.length c2) ns (.slice A3 plan.length c3) plan W) => checkNeeds_any ns (by omega) h.ns)
  have EQ := Lib.hid (fun (xs : List Int) (hx : xs.length ≤ 100000) (u v : Value) (W : World) (h1 : Reads encN u xs W) (h2 : Reads encN v xs W) => eqN_any xs hx h1 h2)
  have HAE : Hid (allErr ms ns plan = if bothErr ms ns = 0 then planErr ms ns plan else bothErr ms ns) := rfl
  have HBE : Hid (bothErr ms ns = thenL (machErr ms) (needErr ns)) := rfl
  have HOK := Lib.hid (fun (h : bothErr ms ns = 0) => And.intro (machErr_ok (bothErr_ok h).1) (needErr_ok (bothErr_ok h).2))
  have HPK := Lib.hid (fun (h : planErr ms ns plan = 0) => (planErr_ok h).1)
  have HCV : Hid (cyV ms ns plan = if allErr ms ns plan = 0 then cyL ms ns plan else []) := rfl
  have HSV : Hid (slV ms ns plan = if allErr ms ns plan = 0 then (((slow (cyL ms ns plan) : Nat) : Int), slowC (cyL ms ns plan)) else (0, 0)) := rfl
  have HTV : Hid (btV ms ns plan = if allErr ms ns plan = 0 then btrL ms ns plan else none) := rfl
  have HCL : Hid ((cyL ms ns plan).length = ms.length) := cyL_len ms ns plan
  have HT1 := Lib.hid (errs_two (machErr ms) (needErr ns))
  have CEE := Lib.hid (fun (W : World) (g : Nat) (hb : W.heap[g]? = some (.cells #[.int .i64 (machErr ms), .int .i64 (needErr ns)] 31 (0, 0))) => errs_any [machErr ms, needErr ns] (by simp) g 2 W ⟨lt_of_blk hb, fun j u hu => by rw [cell_of_blk hb]; simpa using hu⟩)
  rw [HT1.out, ← HBE.out] at CEE
  clear hl7 HT1 HBE
  generalize allErr ms ns plan = E at *
  generalize bothErr ms ns = EB at *
  generalize planErr ms ns plan = EP at *
  generalize machErr ms = EM at *
  generalize needErr ns = EN at *
  generalize btrL ms ns plan = bt at *
  generalize cyL ms ns plan = cl at *
  generalize cyV ms ns plan = cv at *
  generalize slV ms ns plan = sv at *
  generalize btV ms ns plan = bv at *
  generalize ((slow cl : Nat) : Int) = sl1 at *
  generalize slowC cl = sl2 at *
  obtain ⟨s1, s2⟩ := sv
  dsimp only at C2
  go_wp2_with fail
  refine (C1.out _ H3.out).mono ?_
  rintro e w4 ⟨vc, rfl, r4, b4⟩
  have H4 := Lib.hid (And.intro (H3.out.then_ b4) r4)
  clear b4 r4 H3
  obtain ⟨Ac, cc, rfl, _⟩ := H4.out.2
  go_wp2_with fail
  refine (C2.out _ H4.out.1).mono ?_
  rintro e w5 ⟨rfl, b5⟩
  have H5 := Lib.hid (And.intro (H4.out.1.then_ b5) (H4.out.2.below b5))
  clear b5 H4
  obtain ⟨bi, bj, bk, hbi⟩ : ∃ a b c, btI bv = (a, b, c) := ⟨_, _, _, rfl⟩
  have HBI := Lib.hid hbi
  rw [hbi] at C3
  dsimp only at C3
  clear hbi
  go_wp2_with fail
  refine (C3.out _ H5.out.1).mono ?_
  rintro e w6 ⟨rfl, b6⟩
  have H6 := Lib.hid (And.intro (H5.out.1.then_ b6) (H5.out.2.below b6))
  clear b6 H5
  go_wp2_with fail
  refine (C4.out _ H6.out.1).mono ?_
  rintro e w7 ⟨rfl, b7⟩
  have H7 := Lib.hid (And.intro (H6.out.1.then_ b7) (H6.out.2.below b7))
  clear b7 H6
  go_wp2_with fail
  refine (C5.out _ H7.out.1).mono ?_
  rintro e w8 ⟨rfl, b8⟩
  have H8 := Lib.hid (And.intro (H7.out.1.then_ b8) (H7.out.2.below b8))
  clear b8 H7
  go_wp2_with fail
  refine (CEE.out _ w8.heap.size (blk_new w8 _ rfl)).mono ?_
  rintro e w9 ⟨rfl, rfl⟩
  have H9 : Hid (T9 wo w.heap.size (.slice A1 ms.length c1) ms (.slice A2 ns.length c2) ns (.slice A3 plan.length c3) plan (w8.alloc (.cells #[.int .i64 EM, .int .i64 EN] 31)) ∧ Reads encN (.slice Ac cv.length cc) cv (w8.alloc (.cells #[.int .i64 EM, .int .i64 EN] 31))) := ⟨H8.out.1.then_ ((Below.refl _ _).alloc (Nat.le_refl _) _), H8.out.2.below ((Below.refl _ _).alloc (Nat.le_refl _) _)⟩
  generalize w8.alloc (.cells #[.int .i64 EM, .int .i64 EN] 31) = w9 at *
  clear H8
  have HNIL : Hid (E ≠ 0 → cv = [] ∧ s1 = 0 ∧ s2 = 0 ∧ bi = 0 ∧ bj = 0 ∧ bk = false) := fun h => by
    have h1 := HCV.out
    have h2 := HSV.out
    have h3 := HTV.out
    rw [if_neg h] at h1 h2 h3
    have h4 := HBI.out
    rw [h3] at h4
    cases h4
    cases h2
    exact ⟨h1, rfl, rfl, rfl, rfl, rfl⟩
  by_cases hEB : EB = 0
  case neg =>
    obtain rfl : E = EB := HAE.out.trans (if_neg hEB)
    obtain ⟨rfl, rfl, rfl, rfl, rfl, rfl⟩ := HNIL.out hEB
    have hE2 : (E == 0) = false := beq_eq_false_iff_ne.mpr hEB
    have HQ := Lib.hid (And.intro H9.out.1 (And.intro H9.out.2 (nil_readsN w9)))
    clear HNIL HBI HCV HSV HTV HAE hEB H9
    go_wp2_with fail
    clear hE2
    refine (CM.out _ HQ.out.1).mono ?_
    rintro e x1 ⟨rfl, b1⟩
    have Q1 := Lib.hid (And.intro (HQ.out.1.then_ b1) (And.intro (HQ.out.2.1.below b1) (HQ.out.2.2.below b1)))
    clear b1 HQ
    go_wp2_with fail
    refine (C4.out _ Q1.out.1).mono ?_
    rintro e x2 ⟨rfl, b2⟩
    have Q2 := Lib.hid (And.intro (Q1.out.1.then_ b2) (And.intro (Q1.out.2.1.below b2) (Q1.out.2.2.below b2)))
    clear b2 Q1
    go_wp2_with fail
    refine (CN.out _ Q2.out.1).mono ?_
    rintro e x3 ⟨rfl, b3⟩
    have Q3 := Lib.hid (And.intro (Q2.out.1.then_ b3) (And.intro (Q2.out.2.1.below b3) (Q2.out.2.2.below b3)))
    clear b3 Q2
    go_wp2_with fail
    refine (C5.out _ Q3.out.1).mono ?_
    rintro e x4 ⟨rfl, b4⟩
    have Q4 := Lib.hid (And.intro (Q3.out.1.then_ b4) (And.intro (Q3.out.2.1.below b4) (Q3.out.2.2.below b4)))
    clear b4 Q3
    go_wp2_with fail
    refine (EQ.out _ (by simp) _ _ _ Q4.out.2.1 Q4.out.2.2).mono ?_
    rintro e x5 ⟨rfl, b5⟩
    have Q5 := Lib.hid (Q4.out.1.then_ b5)
    clear b5 Q4
    go_wp2_with fail
    refine (lined_any _).mono ?_
    rintro e x6 ⟨rfl, b6⟩
    have Q6 := Lib.hid (Q5.out.then_ b6)
    clear b6 Q5
    go_wp2_with fail
    go_ret
    exact ⟨rfl, HKB.out _ Q6.out.tk.2⟩
  case pos =>
    subst hEB
    obtain ⟨hM, hN⟩ := HOK.out rfl
    have C6' := Lib.hid (C6.out hM hN)
    have hE : E = EP := HAE.out.trans (if_pos rfl)
    subst hE
    go_wp2_with fail
    refine (C6'.out _ H9.out.1).mono ?_
    rintro e w10 ⟨rfl, b10⟩
    have H10 := Lib.hid (And.intro (H9.out.1.then_ b10) (H9.out.2.below b10))
    clear b10 H9
    by_cases hE0 : E = 0
    case neg =>
      obtain ⟨rfl, rfl, rfl, rfl, rfl, rfl⟩ := HNIL.out hE0
      have hE2 : (E == 0) = false := beq_eq_false_iff_ne.mpr hE0
      have HQ := Lib.hid (And.intro H10.out.1 (And.intro H10.out.2 (nil_readsN w10)))
      clear HNIL HBI HCV HSV HTV HAE hE0 H10
      go_wp2_with fail
      clear hE2
      refine (CM.out _ HQ.out.1).mono ?_
      rintro e x1 ⟨rfl, b1⟩
      have Q1 := Lib.hid (And.intro (HQ.out.1.then_ b1) (And.intro (HQ.out.2.1.below b1) (HQ.out.2.2.below b1)))
      clear b1 HQ
      go_wp2_with fail
      refine (C4.out _ Q1.out.1).mono ?_
      rintro e x2 ⟨rfl, b2⟩
      have Q2 := Lib.hid (And.intro (Q1.out.1.then_ b2) (And.intro (Q1.out.2.1.below b2) (Q1.out.2.2.below b2)))
      clear b2 Q1
      go_wp2_with fail
      refine (CN.out _ Q2.out.1).mono ?_
      rintro e x3 ⟨rfl, b3⟩
      have Q3 := Lib.hid (And.intro (Q2.out.1.then_ b3) (And.intro (Q2.out.2.1.below b3) (Q2.out.2.2.below b3)))
      clear b3 Q2
      go_wp2_with fail
      refine (C5.out _ Q3.out.1).mono ?_
      rintro e x4 ⟨rfl, b4⟩
      have Q4 := Lib.hid (And.intro (Q3.out.1.then_ b4) (And.intro (Q3.out.2.1.below b4) (Q3.out.2.2.below b4)))
      clear b4 Q3
      go_wp2_with fail
      refine (EQ.out _ (by simp) _ _ _ Q4.out.2.1 Q4.out.2.2).mono ?_
      rintro e x5 ⟨rfl, b5⟩
      have Q5 := Lib.hid (Q4.out.1.then_ b5)
      clear b5 Q4
      go_wp2_with fail
      refine (lined_any _).mono ?_
      rintro e x6 ⟨rfl, b6⟩
      have Q6 := Lib.hid (Q5.out.then_ b6)
      clear b6 Q5
      go_wp2_with fail
      go_ret
      exact ⟨rfl, HKB.out _ Q6.out.tk.2⟩
    case pos =>
      have hPL := HPK.out hE0
      have C7' := Lib.hid (C7.out hM hN (by omega))
      have C8' := Lib.hid (C8.out hM hN (by omega))
      have C9' := Lib.hid (C9.out hM hN hE0)
      clear hPL
      subst hE0
      obtain rfl : cv = cl := HCV.out.trans (if_pos rfl)
      have hsv := HSV.out.trans (if_pos rfl)
      cases hsv
      obtain rfl : bv = bt := HTV.out.trans (if_pos rfl)
      rw [HBI.out] at C9'
      dsimp only at C9'
      clear HNIL HBI HCV HSV HTV HAE
      go_wp2_with fail
      refine (C7'.out _ H10.out.1).mono ?_
      rintro e w11 ⟨vw, rfl, rw11, b11⟩
      rw [← HCL.out] at rw11
      have H11 := Lib.hid (And.intro (H10.out.1.then_ b11) (And.intro (H10.out.2.below b11) (readsN_own rw11)))
      clear b11 H10 rw11
      obtain ⟨Aw, cw, rfl, _⟩ := H11.out.2.2
      go_wp2_with fail
      refine (C8'.out _ H11.out.1).mono ?_
      rintro e w12 ⟨rfl, b12⟩
      have H12 := Lib.hid (And.intro (H11.out.1.then_ b12) (And.intro (H11.out.2.1.below b12) (H11.out.2.2.below b12)))
      clear b12 H11
      go_wp2_with fail
      refine (C9'.out _ H12.out.1).mono ?_
      rintro e w13 ⟨rfl, b13⟩
      have HQ := Lib.hid (And.intro (H12.out.1.then_ b13) (And.intro (H12.out.2.1.below b13) (H12.out.2.2.below b13)))
      have hlc : cv.length ≤ 100000 := by have := HCL.out; omega
      clear b13 H12
      go_wp2_with fail
      refine (CM.out _ HQ.out.1).mono ?_
      rintro e x1 ⟨rfl, b1⟩
      have Q1 := Lib.hid (And.intro (HQ.out.1.then_ b1) (And.intro (HQ.out.2.1.below b1) (HQ.out.2.2.below b1)))
      clear b1 HQ
      go_wp2_with fail
      refine (C4.out _ Q1.out.1).mono ?_
      rintro e x2 ⟨rfl, b2⟩
      have Q2 := Lib.hid (And.intro (Q1.out.1.then_ b2) (And.intro (Q1.out.2.1.below b2) (Q1.out.2.2.below b2)))
      clear b2 Q1
      go_wp2_with fail
      refine (CN.out _ Q2.out.1).mono ?_
      rintro e x3 ⟨rfl, b3⟩
      have Q3 := Lib.hid (And.intro (Q2.out.1.then_ b3) (And.intro (Q2.out.2.1.below b3) (Q2.out.2.2.below b3)))
      clear b3 Q2
      go_wp2_with fail
      refine (C5.out _ Q3.out.1).mono ?_
      rintro e x4 ⟨rfl, b4⟩
      have Q4 := Lib.hid (And.intro (Q3.out.1.then_ b4) (And.intro (Q3.out.2.1.below b4) (Q3.out.2.2.below b4)))
      clear b4 Q3
      go_wp2_with fail
      refine (EQ.out _ hlc _ _ _ Q4.out.2.1 Q4.out.2.2).mono ?_
      rintro e x5 ⟨rfl, b5⟩
      have Q5 := Lib.hid (Q4.out.1.then_ b5)
      clear b5 Q4
      go_wp2_with fail
      refine (lined_any _).mono ?_
      rintro e x6 ⟨rfl, b6⟩
      have Q6 := Lib.hid (Q5.out.then_ b6)
      clear b6 Q5
      go_wp2_with fail
      go_ret
      exact ⟨rfl, HKB.out _ Q6.out.tk.2⟩
end Go.Proofs.Ytjmjmijjdgolfaa
