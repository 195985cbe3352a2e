/-
  The check of a plan.
-/
import Derived.Test.YtmjonmoagpkdiabGreatDoorLcE
namespace Go.Proofs.YtmjonmoagpkdiabGreatDoor
open Go.RowKit
set_option linter.unusedSimpArgs false
set_option linter.unusedVariables false

theorem MsF.at_ {base : Nat} {A : Option Addr} {c : Nat} {ms : List Mc} {w : World} (h : MsF base (.slice A ms.length c) ms w) {k : Nat} (hk : k < ms.length) : ∃ g : Nat, A = some ⟨g, 0, none⟩ ∧ g < w.heap.size ∧ McAt base g (k * 5) ms[k] w := by
  obtain ⟨A', c', e, _, hr⟩ := h
  cases e
  rcases hr with rfl | ⟨g, rfl, hgl, hrow⟩
  · simp at hk
  exact ⟨g, rfl, hgl, hrow k hk⟩
theorem readsD_at {A : Option Addr} {c : Nat} {ns : List Nd} {w : World} (h : Reads encD (.slice A ns.length c) ns w) {k : Nat} (hk : k < ns.length) : ∃ g : Nat, A = some ⟨g, 0, none⟩ ∧ g < w.heap.size ∧ w.cell? ⟨g, k * 2, none⟩ = some (.string ns[k].part) ∧ w.cell? ⟨g, k * 2 + 1, none⟩ = some (.int .i64 ns[k].many) := by
  obtain ⟨A', c', e, hr⟩ := h
  cases e
  rcases hr with rfl | ⟨g, rfl, hrow⟩
  · simp at hk
  exact ⟨g, rfl, hrow.1, row_d hrow hk⟩
theorem readsN_at {A : Option Addr} {c : Nat} {l : List Int} {w : World} (h : Reads encN (.slice A l.length c) l w) {k : Nat} (hk : k < l.length) : ∃ g : Nat, A = some ⟨g, 0, none⟩ ∧ g < w.heap.size ∧ w.cell? ⟨g, k, none⟩ = some (.int .i64 l[k]) := by
  obtain ⟨A', c', e, hr⟩ := h
  cases e
  rcases hr with rfl | ⟨g, rfl, hrow⟩
  · simp at hk
  exact ⟨g, rfl, hrow.1, row_n hrow hk⟩

set_option maxRecDepth 100000 in
set_option maxHeartbeats 8000000 in
theorem checkPlan_any {base : Nat} (ms : List Mc) (ns : List Nd) (plan : List Int) (hl : ms.length ≤ 1000000) (hc : ∀ m ∈ ms, m.can.length ≤ 1000000) (hn : ns.length ≤ 1000000) (hpl : plan.length ≤ 1000000) {v1 v2 v3 : Value} {w : World} (h1 : MsF base v1 ms w) (h2 : Reads encD v2 ns w) (h3 : Reads encN v3 plan w) :
    Calls Tryz.prog 16 #[v1, v2, v3] w fun e w' => e = .returned (.int .i64 (allErr ms ns plan)) ∧ Below w.heap.size w w' := by
  have HR := Lib.hid (And.intro h1 (And.intro h2 h3))
  have C1 := Lib.hid (check_line ms ns hl hc hn h1 h2)
  have HE : Hid (allErr ms ns plan = if bothErr ms ns = 0 then planErr ms ns plan else bothErr ms ns) := rfl
  have HO := Lib.hid (@bothErr_ok ms ns)
  obtain ⟨A1, c1, rfl, hc1, _⟩ := h1
  obtain ⟨A2, c2, rfl, _⟩ := h2
  obtain ⟨A3, c3, rfl, _⟩ := h3
  generalize allErr ms ns plan = E at *
  generalize bothErr ms ns = E1 at *
  by_cases h0 : E1 = 0
  case neg =>
    have HF : Hid (E = E1) := HE.out.trans (if_neg h0)
    clear HE HO
    go_enter Tryz.func16, Tryz.ntmps16
    go_wp2_with fail
    refine C1.out.mono ?_
    rintro e w2 ⟨rfl, b2⟩
    have HB := Lib.hid b2
    clear b2
    go_wp2_with fail
    go_ret
    exact ⟨ret_int HF.out.symm, HB.out⟩
  case pos =>
    have HE1 : Hid (E = planErr ms ns plan) := HE.out.trans (if_pos h0)
    have hM := machErr_ok (HO.out h0).1
    have hN := needErr_ok (HO.out h0).2
    have HM := Lib.hid hM
    have HN := Lib.hid hN
    have hmf := hM.few
    have hms := hM.some
    have hnf := hN.few
    subst h0
    clear HE HO hM hN
    have HP : Hid (planErr ms ns plan = if (plan.length : Int) ≠ ns.length then 3 else if pErr ms plan ns = 0 then full plan ms 0 else pErr ms plan ns) := rfl
    go_enter Tryz.func16, Tryz.ntmps16
    go_wp2_with fail
    refine C1.out.mono ?_
    rintro e w2 ⟨rfl, b2⟩
    have HB := Lib.hid b2
    clear b2 C1
    by_cases hln : (plan.length : Int) ≠ ns.length
    · have HF : Hid (E = 3) := HE1.out.trans (HP.out.trans (if_pos hln))
      have hln2 : ((plan.length : Int) != (ns.length : Int)) = true := bne_iff_ne.mpr hln
      clear hln HP HE1
      go_wp2_with fail
      go_ret
      exact ⟨ret_int HF.out.symm, HB.out⟩
    have HE2 : Hid (E = if pErr ms plan ns = 0 then full plan ms 0 else pErr ms plan ns) := HE1.out.trans (HP.out.trans (if_neg hln))
    have hln2 : ((plan.length : Int) != (ns.length : Int)) = false := by simpa using hln
    have hlen : plan.length = ns.length := by omega
    have HLEN := Lib.hid hlen
    have HOK : Hid (pErr ms plan ns = 0 → Idx ms plan) := fun h => pErr_ok ms plan ns (by omega) h
    generalize hPE : pErr ms plan ns = PE at *
    have HPE := Lib.hid hPE
    clear HP HE1 hln hPE hlen
    go_wp2_with fail
    clear hln2
    go_loopw [25] (fun kk wr => ∃ t : Nat, t ≤ plan.length ∧ kk = .int .i64 t ∧ Hid (Below w.heap.size w wr ∧ PE = pErr ms (plan.drop t) (ns.drop t))) (fun kk _ => plan.length - (intOf kk).toNat)
    case atStart => exact ⟨0, by omega, rfl, HB.out, HPE.out.symm⟩
    case round =>
      obtain ⟨t, ht, rfl, HS⟩ := hrel
      by_cases htl : t < plan.length
      · have hnt : t < ns.length := by have := HLEN.out; omega
        have HD : Hid (PE = if inR plan[t] 0 ((ms.length : Int) - 1) = false then 8 else if has (mcA ms plan[t].toNat).can ns[t].part = false then 4 else pErr ms (plan.drop (t + 1)) (ns.drop (t + 1))) := HS.out.2.trans (pErr_drop htl hnt)
        have HB1 := Lib.hid HS.out.1
        have hR := HR.out
        obtain ⟨g3, e3, hg3, d0⟩ := readsN_at (hR.2.2.below HS.out.1) htl
        obtain ⟨g2, e2, hg2, n0, n1⟩ := readsD_at (hR.2.1.below HS.out.1) hnt
        cases e3
        cases e2
        clear hR HS
        generalize plan[t] = kx at *
        generalize ns[t] = nd at *
        obtain ⟨part, many⟩ := nd
        dsimp only at HD n0 n1
        have CW := Lib.hid (fun W => withinR kx 0 ((ms.length : Int) - 1) W)
        have i1 : (0 : Int) ≤ (t : Int) := by omega
        have i2 : (t : Int) < (plan.length : Int) := by omega
        have i5 : (t : Int) < (ns.length : Int) := by omega
        have hrng : inR kx 0 ((ms.length : Int) - 1) = true → 0 ≤ kx ∧ kx < (ms.length : Int) := fun h => by
          unfold inR at h
          simp at h
          omega
        have HRNG := Lib.hid hrng
        clear hrng
        cases hin : inR kx 0 ((ms.length : Int) - 1)
        · have HF8 := Lib.hid (HD.out.trans (if_pos hin))
          have HF : Hid (E = 8) := HE2.out.trans (by rw [HF8.out]; rfl)
          rw [hin] at CW
          clear hin HD HF8
          go_wp2_with fail
          refine (CW.out _).mono ?_
          rintro e w3 ⟨rfl, rfl⟩
          go_wp2_with fail
          go_ret
          exact ⟨ret_int HF.out.symm, HB1.out⟩
        have HD1 := Lib.hid (HD.out.trans (if_neg (by rw [hin]; simp)))
        obtain ⟨k0, k1⟩ := HRNG.out hin
        rw [hin] at CW
        obtain ⟨p, rfl⟩ := Int.eq_ofNat_of_zero_le k0
        have hpm : p < ms.length := by omega
        obtain ⟨g1, e1, hg1, q0, q1, q2, q3, u, q4, hu⟩ := (HR.out.1.below HB1.out).at_ hpm
        cases e1
        obtain ⟨A4, c4, rfl, hc4, hr4⟩ := hu
        have hmo := HM.out.ok _ (List.getElem_mem hpm)
        have HU : Hid (ReadsF base encS (.slice A4 ms[p].can.length c4) ms[p].can wr) := ⟨A4, c4, rfl, hc4, hr4⟩
        have HD2 : Hid (PE = if has ms[p].can part = false then 4 else pErr ms (plan.drop (t + 1)) (ns.drop (t + 1))) := HD1.out.trans (by rw [Int.toNat_natCast, mcA_at hpm])
        clear hin HD HD1 HRNG hr4
        generalize ms[p] = m at *
        obtain ⟨key, each, fixed, feed, can⟩ := m
        have hcl := hmo.few
        have hco := hmo.can
        dsimp only at q0 q1 q2 q3 q4 HU HD2 hcl hco hc4
        have CP := Lib.hid (fun (W : World) (h : ReadsF base encS (.slice A4 can.length c4) can W) => canPlace_any key each fixed feed can part (by omega) hco h)
        clear hmo hco
        have i3 : (0 : Int) ≤ (p : Int) := by omega
        have i4 : (p : Int) < (ms.length : Int) := by omega
        have hzx := HB1.out.size
        go_upto_region 11 with (refine (CW.out _).mono ?_; rintro e w3 ⟨rfl, rfl⟩)
        refine Rg.rgL (fun a b => Below a.heap.size a b)
          [(fun vs u => vs 0 = .slice (some ⟨g1, 0, none⟩) ms.length c1), (fun vs u => vs 1 = .int .i64 p), (fun vs u => vs 2 = .pointer (some ⟨g1, p * 5, none⟩)), (fun vs u => vs 3 = .agg #[.string key, .int .i64 each, .int .i64 fixed, .int .i64 feed, .slice A4 can.length c4]), (fun vs u => vs 4 = .slice (some ⟨g2, 0, none⟩) ns.length c2), (fun vs u => vs 5 = .int .i64 t), (fun vs u => vs 6 = .pointer (some ⟨g2, t * 2, none⟩)), (fun vs u => vs 7 = .pointer (some ⟨g2, t * 2, none⟩)), (fun vs u => vs 8 = .string part)]
          [[], [], [0, 1], [0, 1, 2], [], [], [4, 5], [4, 5, 6], [4, 5, 6, 7]] [some 38, some 39, some 40, some 41, some 42, some 43, some 44, some 45, some 46, some 47, some 48, some 37] [] (fun _ _ => True) [[], [], [0, 1], [0, 1, 2], [], [], [4, 5], [4, 5, 6], [4, 5, 6, 7], [0, 1, 2, 3, 4, 5, 6, 7, 8], [0, 1, 2, 3, 4, 5, 6, 7, 8, 9], [0, 1, 2, 3, 4, 5, 6, 7, 8, 9, 10]]
          (by kernel_rfl) (by decide) (by kernel_rfl) (by kernel_rfl) (by kernel_rfl) (by kernel_rfl) (by kernel_rfl) (fun _ => Below.refl _ _) (fun _ _ _ h k => h.ext k) (fun _ _ h => h.size) ?_ trivial ?_ ?_
        · intro t ht vs w w' h hE
          simp only [List.mem_cons, List.not_mem_nil, or_false] at ht
          rcases ht with rfl | rfl | rfl | rfl | rfl | rfl | rfl | rfl | rfl
          · exact h
          · exact h
          · exact h
          · exact h
          · exact h
          · exact h
          · exact h
          · exact h
          · exact h
        ·
          refine Rg.cons 0 1 rfl (Rg.plain rfl ?_) ?_
          · intro vs W n hn hI hG hT hF K hK
            simp only [Rg.putsD, List.getD_cons_zero, List.getD_cons_succ, Act.put, List.setIfInBounds_toArray, List.set_cons_zero, List.set_cons_succ] at hK ⊢
            clear hn
            clear hF hI
            have H := Lib.hid hK
            clear hK hT
            go_simp
            exact H.out _ _ (Below.refl _ _) rfl (fun h => by cases h) trivial
          refine Rg.cons 1 2 rfl (Rg.plain rfl ?_) ?_
          · intro vs W n hn hI hG hT hF K hK
            simp only [Rg.putsD, List.getD_cons_zero, List.getD_cons_succ, Act.put, List.setIfInBounds_toArray, List.set_cons_zero, List.set_cons_succ] at hK ⊢
            clear hn
            clear hF hI
            have H := Lib.hid hK
            clear hK hT
            go_simp
            exact H.out _ _ (Below.refl _ _) rfl (fun h => by cases h) trivial
          refine Rg.cons 2 3 rfl (Rg.plain rfl ?_) ?_
          · intro vs W n hn hI hG hT hF K hK
            simp only [Rg.putsD, List.getD_cons_zero, List.getD_cons_succ, Act.put, List.setIfInBounds_toArray, List.set_cons_zero, List.set_cons_succ] at hK ⊢
            clear hn
            clear hF hI
            have t0 : vs 0 = .slice (some ⟨g1, 0, none⟩) ms.length c1 := hT 0 (by decide)
            have t1 : vs 1 = .int .i64 p := hT 1 (by decide)
            simp only [t0, t1] at hK
            have H := Lib.hid hK
            clear hK hT
            go_simp
            exact H.out _ _ (Below.refl _ _) rfl (fun h => by cases h) trivial
          refine Rg.cons 3 4 rfl (Rg.plain rfl ?_) ?_
          · intro vs W n hn hI hG hT hF K hK
            simp only [Rg.putsD, List.getD_cons_zero, List.getD_cons_succ, Act.put, List.setIfInBounds_toArray, List.set_cons_zero, List.set_cons_succ] at hK ⊢
            clear hn
            clear hF hI
            have t0 : vs 0 = .slice (some ⟨g1, 0, none⟩) ms.length c1 := hT 0 (by decide)
            have t1 : vs 1 = .int .i64 p := hT 1 (by decide)
            have t2 : vs 2 = .pointer (some ⟨g1, p * 5, none⟩) := hT 2 (by decide)
            have c0 := (hG.cell (p := ⟨g1, p * 5, none⟩) hg1).trans q0
            have c1 := (hG.cell (p := ⟨g1, p * 5 + 1, none⟩) hg1).trans q1
            have c2 := (hG.cell (p := ⟨g1, p * 5 + 2, none⟩) hg1).trans q2
            have c3 := (hG.cell (p := ⟨g1, p * 5 + 3, none⟩) hg1).trans q3
            have c4 := (hG.cell (p := ⟨g1, p * 5 + 4, none⟩) hg1).trans q4
            simp only [t0, t1, t2] at hK
            have H := Lib.hid hK
            clear hK hT
            go_simp
            exact H.out _ _ (Below.refl _ _) rfl (fun h => by cases h) trivial
          refine Rg.cons 4 5 rfl (Rg.plain rfl ?_) ?_
          · intro vs W n hn hI hG hT hF K hK
            simp only [Rg.putsD, List.getD_cons_zero, List.getD_cons_succ, Act.put, List.setIfInBounds_toArray, List.set_cons_zero, List.set_cons_succ] at hK ⊢
            clear hn
            clear hF hI
            have H := Lib.hid hK
            clear hK hT
            go_simp
            exact H.out _ _ (Below.refl _ _) rfl (fun h => by cases h) trivial
          refine Rg.cons 5 6 rfl (Rg.plain rfl ?_) ?_
          · intro vs W n hn hI hG hT hF K hK
            simp only [Rg.putsD, List.getD_cons_zero, List.getD_cons_succ, Act.put, List.setIfInBounds_toArray, List.set_cons_zero, List.set_cons_succ] at hK ⊢
            clear hn
            clear hF hI
            have H := Lib.hid hK
            clear hK hT
            go_simp
            exact H.out _ _ (Below.refl _ _) rfl (fun h => by cases h) trivial
          refine Rg.cons 6 7 rfl (Rg.plain rfl ?_) ?_
          · intro vs W n hn hI hG hT hF K hK
            simp only [Rg.putsD, List.getD_cons_zero, List.getD_cons_succ, Act.put, List.setIfInBounds_toArray, List.set_cons_zero, List.set_cons_succ] at hK ⊢
            clear hn
            clear hF hI
            have t4 : vs 4 = .slice (some ⟨g2, 0, none⟩) ns.length c2 := hT 4 (by decide)
            have t5 : vs 5 = .int .i64 t := hT 5 (by decide)
            simp only [t4, t5] at hK
            have H := Lib.hid hK
            clear hK hT
            go_simp
            exact H.out _ _ (Below.refl _ _) rfl (fun h => by cases h) trivial
          refine Rg.cons 7 8 rfl (Rg.plain rfl ?_) ?_
          · intro vs W n hn hI hG hT hF K hK
            simp only [Rg.putsD, List.getD_cons_zero, List.getD_cons_succ, Act.put, List.setIfInBounds_toArray, List.set_cons_zero, List.set_cons_succ] at hK ⊢
            clear hn
            clear hF hI
            have t4 : vs 4 = .slice (some ⟨g2, 0, none⟩) ns.length c2 := hT 4 (by decide)
            have t5 : vs 5 = .int .i64 t := hT 5 (by decide)
            have t6 : vs 6 = .pointer (some ⟨g2, t * 2, none⟩) := hT 6 (by decide)
            simp only [t4, t5, t6] at hK
            have H := Lib.hid hK
            clear hK hT
            go_simp
            exact H.out _ _ (Below.refl _ _) rfl (fun h => by cases h) trivial
          refine Rg.cons 8 9 rfl (Rg.plain rfl ?_) ?_
          · intro vs W n hn hI hG hT hF K hK
            simp only [Rg.putsD, List.getD_cons_zero, List.getD_cons_succ, Act.put, List.setIfInBounds_toArray, List.set_cons_zero, List.set_cons_succ] at hK ⊢
            clear hn
            clear hF hI
            have t4 : vs 4 = .slice (some ⟨g2, 0, none⟩) ns.length c2 := hT 4 (by decide)
            have t5 : vs 5 = .int .i64 t := hT 5 (by decide)
            have t6 : vs 6 = .pointer (some ⟨g2, t * 2, none⟩) := hT 6 (by decide)
            have t7 : vs 7 = .pointer (some ⟨g2, t * 2, none⟩) := hT 7 (by decide)
            have c0 := (hG.cell (p := ⟨g2, t * 2, none⟩) hg2).trans n0
            simp only [t4, t5, t6, t7] at hK
            have H := Lib.hid hK
            clear hK hT
            go_simp
            exact H.out _ _ (Below.refl _ _) rfl (fun h => by cases h) trivial
          exact Rg.nil
        · intro vs W hG hI hT hF
          have t0 : vs 0 = .slice (some ⟨g1, 0, none⟩) ms.length c1 := hT 0 (by decide)
          have t1 : vs 1 = .int .i64 p := hT 1 (by decide)
          have t2 : vs 2 = .pointer (some ⟨g1, p * 5, none⟩) := hT 2 (by decide)
          have t3 : vs 3 = .agg #[.string key, .int .i64 each, .int .i64 fixed, .int .i64 feed, .slice A4 can.length c4] := hT 3 (by decide)
          have t4 : vs 4 = .slice (some ⟨g2, 0, none⟩) ns.length c2 := hT 4 (by decide)
          have t5 : vs 5 = .int .i64 t := hT 5 (by decide)
          have t6 : vs 6 = .pointer (some ⟨g2, t * 2, none⟩) := hT 6 (by decide)
          have t7 : vs 7 = .pointer (some ⟨g2, t * 2, none⟩) := hT 7 (by decide)
          have t8 : vs 8 = .string part := hT 8 (by decide)
          simp only [List.length_cons, List.length_nil, Nat.reduceAdd, List.range, List.range.loop, List.drop_succ_cons, List.drop_zero, Rg.putsD, List.getD_cons_zero, List.getD_cons_succ, Act.put, List.setIfInBounds_toArray, List.set_cons_zero, List.set_cons_succ, t0, t1, t2, t3, t4, t5, t6, t7, t8]
          clear hT t0 t1 t2 t3 t4 t5 t6 t7 t8
          have hGW : Below wr.heap.size wr W := (Below.refl _ _).drew.then_below hG (Nat.le_refl _)
          have HB2 : Hid (Below w.heap.size w W) := HB1.out.then_below hGW hzx
          have HU2 := Lib.hid (HU.out.below hGW)
          clear hF hI hG hGW d0 n0 n1 q0 q1 q2 q3 q4 CW HU HB1
          cases hh : has can part
          · have HF4 := Lib.hid (HD2.out.trans (if_pos hh))
            have HF : Hid (E = 4) := HE2.out.trans (by rw [HF4.out]; rfl)
            rw [hh] at CP
            clear hh HD2 HF4
            go_wp2_with fail
            refine (CP.out _ HU2.out).mono ?_
            rintro e w3 ⟨rfl, b3⟩
            have HB3 := Lib.hid (HB2.out.then_below b3 HB2.out.size)
            clear b3
            go_wp2_with fail
            go_ret
            exact ⟨ret_int HF.out.symm, HB3.out⟩
          · have HF : Hid (PE = pErr ms (plan.drop (t + 1)) (ns.drop (t + 1))) := HD2.out.trans (if_neg (by rw [hh]; simp))
            rw [hh] at CP
            clear hh HD2
            go_wp2_with fail
            refine (CP.out _ HU2.out).mono ?_
            rintro e w3 ⟨rfl, b3⟩
            have HB3 := Lib.hid (HB2.out.then_below b3 HB2.out.size)
            clear b3
            go_wp2_with fail
            go_roundw
            case rel => exact ⟨t + 1, by omega, by go_num, HB3.out, HF.out⟩
            case measure => simp [intOf]; omega
      · have hP0 : PE = 0 := HS.out.2.trans (by rw [List.drop_eq_nil_of_le (by omega)]; rfl)
        have HF : Hid (E = full plan ms 0) := HE2.out.trans (if_pos hP0)
        have HI := Lib.hid (HOK.out hP0)
        have hR := HR.out
        have CL := Lib.hid (loads_any ms ns plan HM.out HN.out HI.out (by have := HLEN.out; omega) (hR.1.below HS.out.1) (hR.2.1.below HS.out.1) (hR.2.2.below HS.out.1))
        have HB1 := Lib.hid HS.out.1
        clear HS hP0 HE2 HOK HPE hR
        go_wp2_with fail
        refine CL.out.mono ?_
        rintro e w3 ⟨gb, rfl, hLS⟩
        have HL := Lib.hid hLS
        have HB3 := Lib.hid (HB1.out.then_below hLS.bel HB1.out.size)
        clear hLS CL
        go_wp2_with fail
        go_loopw [55] (fun kk wr => ∃ k : Nat, k ≤ ms.length ∧ kk = .int .i64 k ∧ Hid (Below w3.heap.size w3 wr ∧ E = full plan (ms.drop k) k)) (fun kk _ => ms.length - (intOf kk).toNat)
        case atStart => exact ⟨0, by omega, rfl, Below.refl _ _, HF.out⟩
        case round =>
          clear HF
          obtain ⟨k, hk, rfl, HS⟩ := hrel
          by_cases hlt : k < ms.length
          · have HD := Lib.hid (HS.out.2.trans (full_drop hlt))
            have hLk : k < (ldL ms ns plan).length := by rw [ldL_len]; exact hlt
            obtain ⟨l0, l1⟩ := (HL.out.then_ HS.out.1).at_ hLk
            rw [ldL_at _ _ _ hlt] at l0 l1
            dsimp only at l0 l1
            have hgb := lt_of_blk (HL.out.then_ HS.out.1).row
            have hpa := count_le plan plan.length (k : Int)
            rw [List.take_of_length_le (Nat.le_refl _)] at hpa
            have hbx := HB3.out.then_below HS.out.1 HB3.out.size
            obtain ⟨g1, e1, hg1, q0, q1, q2, q3, u, q4, hu⟩ := (HR.out.1.below hbx).at_ hlt
            cases e1
            have HBX := Lib.hid hbx
            clear hbx
            generalize cyOf ms[k] k plan ns = cy at *
            generalize (plan.count (k : Int) : Int) = pa at *
            generalize ms[k] = m at *
            obtain ⟨key, each, fixed, feed, can⟩ := m
            dsimp only at q0 q1 q2 q3 q4 HD
            have i1 : (0 : Int) ≤ (k : Int) := by omega
            have i2 : (k : Int) < (ms.length : Int) := by omega
            have hb2 : Below wr.heap.size wr (wr.alloc (.cells #[.int .i64 cy, .int .i64 pa] 59)) := (Below.refl _ _).alloc (Nat.le_refl _) _
            have HX : Hid (Below w3.heap.size w3 (wr.alloc (.cells #[.int .i64 cy, .int .i64 pa] 59)) ∧ Below w.heap.size w (wr.alloc (.cells #[.int .i64 cy, .int .i64 pa] 59)) ∧ (wr.alloc (.cells #[.int .i64 cy, .int .i64 pa] 59)).heap[wr.heap.size]? = some (.cells #[.int .i64 cy, .int .i64 pa] 59 (0, 0)) ∧ (wr.alloc (.cells #[.int .i64 cy, .int .i64 pa] 59)).cell? ⟨g1, k * 5 + 3, none⟩ = some (.int .i64 feed) ∧ g1 < (wr.alloc (.cells #[.int .i64 cy, .int .i64 pa] 59)).heap.size) :=
              ⟨HS.out.1.then_below hb2 HS.out.1.size, HBX.out.then_below hb2 HBX.out.size, blk_new wr _ rfl, (hb2.cell (p := ⟨g1, k * 5 + 3, none⟩) hg1).trans q3, by simp; omega⟩
            clear hb2
            go_upto_region 17 with (fail)
            generalize wr.alloc (.cells #[.int .i64 cy, .int .i64 pa] 59) = wx at *
            obtain ⟨_, hBW, hBlk, r3, hgx⟩ := HX.out
            obtain ⟨p0, p1⟩ := blk2c hBlk
            have pl := lt_of_blk hBlk
            have HBW := Lib.hid hBW
            clear q0 q1 q2 q3 q4 l0 l1 hBW hBlk
            generalize wr.heap.size = gx at *
            by_cases hfe : feed < pa
            · have HF : Hid (E = 12) := HD.out.trans (if_pos hfe)
              go_wp2_with fail
              go_quiet (fail)
              go_wp2_with fail
              go_ret
              exact ⟨ret_int HF.out.symm, HBW.out.drawN _⟩
            · have HF : Hid (E = full plan (ms.drop (k + 1)) (k + 1)) := HD.out.trans (if_neg hfe)
              go_wp2_with fail
              go_quiet (fail)
              go_wp2_with fail
              go_roundw
              case rel => exact ⟨k + 1, by omega, by go_num, HX.out.1.drawN _, HF.out⟩
              case measure => simp [intOf]; omega
          · have HF : Hid (E = 0) := HS.out.2.trans (by rw [List.drop_eq_nil_of_le (by omega)]; rfl)
            have HBW := Lib.hid (HB3.out.then_below HS.out.1 HB3.out.size)
            go_wp2_with fail
            go_ret
            exact ⟨ret_int HF.out.symm, HBW.out⟩
end Go.Proofs.YtmjonmoagpkdiabGreatDoor
