/-
  The first change of a plan that makes the longest cycle shorter: the program's answer, and the reference's.
-/
import Derived.Test.YtjmjmijjdgolfaaLcL
import Derived.Test.YtjmjmijjdgolfaaLcK
namespace Go.Proofs.Ytjmjmijjdgolfaa
open Go.RowKit
set_option linter.unusedSimpArgs false
set_option linter.unusedVariables false

def btV (ms : List Mc) (ns : List Nd) (plan : List Int) : Option (Nat × Nat) := if allErr ms ns plan = 0 then btrL ms ns plan else none
set_option maxRecDepth 100000 in
set_option maxHeartbeats 4000000 in
theorem better_any {base : Nat} (ms : List Mc) (ns : List Nd) (plan : List Int) (hl : ms.length ≤ 1000000) (hc : ∀ m ∈ ms, m.can.length ≤ 1000000) (hn : ns.length ≤ 1000000) (hpl : plan.length ≤ 1000000) {v1 v2 v3 : Value} {w : World} (h1 : MsF base v1 ms w) (h2 : Reads encD v2 ns w) (h3 : Reads encN v3 plan w) :
    Calls Try.prog 11 #[v1, v2, v3] w fun e w' => e = .returned (.tuple #[.int .i64 (btI (btV ms ns plan)).1, .int .i64 (btI (btV ms ns plan)).2.1, .bool (btI (btV ms ns plan)).2.2, .int .i64 (allErr ms ns plan)]) ∧ Below w.heap.size w w' := by
  have CC := Lib.hid (checkPlan_any ms ns plan hl hc hn hpl h1 h2 h3)
  have CB := Lib.hid (fun (hM : MsOk ms) (hN : NsOk ns) (hP : planErr ms ns plan = 0) (W : World) (hb : Below w.heap.size w W) => betterIn_any ms ns plan hM hN hP (h1.below hb) (h2.below hb) (h3.below hb))
  obtain ⟨A1, c1, rfl, hc1, _⟩ := h1
  obtain ⟨A2, c2, rfl, _⟩ := h2
  obtain ⟨A3, c3, rfl, _⟩ := h3
  by_cases h0 : allErr ms ns plan = 0
  rotate_left
  · have HV : Hid (btV ms ns plan = none) := if_neg h0
    have hne : (allErr ms ns plan != 0) = true := by simp [h0]
    generalize allErr ms ns plan = E at *
    generalize btV ms ns plan = CV at *
    clear h0 CB
    go_enter Try.func11, Try.ntmps11
    go_wp2_with fail
    refine CC.out.mono ?_
    rintro e w2 ⟨rfl, b2⟩
    have HB := Lib.hid b2
    clear b2 CC
    go_wp2_with fail
    refine bodyPost_ret (v := .tuple #[.int .i64 0, .int .i64 0, .bool false, .int .i64 E]) (by unfold results; simp only [Try.results11]; go_simp) rfl ⟨by rw [HV.out]; rfl, HB.out⟩
  obtain ⟨hM, hN, hP⟩ := allErr_ok h0
  have HV : Hid (btV ms ns plan = btrL ms ns plan) := if_pos h0
  have CB2 := Lib.hid (CB.out hM hN hP)
  rw [h0] at CC ⊢
  generalize btV ms ns plan = CV at *
  generalize btrL ms ns plan = BT at *
  obtain ⟨r1, r2, r3⟩ : ∃ a b c, btI BT = (a, b, c) := ⟨_, _, _, rfl⟩
  obtain ⟨r2, r3, hr⟩ := (⟨r2, r3⟩ : ∃ b c, btI BT = (r1, b, c))
  have HBI := Lib.hid hr
  rw [hr] at CB2
  dsimp only at CB2
  clear hr h0 hM hN hP CB
  go_enter Try.func11, Try.ntmps11
  go_wp2_with fail
  refine CC.out.mono ?_
  rintro e w2 ⟨rfl, b2⟩
  have HB := Lib.hid b2
  clear b2 CC
  go_wp2_with fail
  refine (CB2.out _ HB.out).mono ?_
  rintro e w3 ⟨rfl, b3⟩
  have HB3 := Lib.hid (HB.out.then_below b3 HB.out.size)
  clear b3
  go_wp2_with fail
  refine bodyPost_ret (v := .tuple #[.int .i64 r1, .int .i64 r2, .bool r3, .int .i64 0]) (by unfold results; simp only [Try.results11]; go_simp) rfl ⟨by rw [HV.out, HBI.out], HB3.out⟩

def tmI : Option Nat → Int
  | none => -1
  | some q => q
theorem bst_le (ms : List Mc) (ns : List Nd) (plan : List Int) (i k : Nat) : (bst ms ns plan i k).2 ≤ nowC ms ns plan := (bst_none ms ns plan i k).1
theorem ref_yes {ms : List Mc} {ns : List Nd} {plan : List Int} (h : planErr ms ns plan = 0) {i k : Nat} (hi : i < plan.length) (hk : k < ms.length) (hp : planErr ms ns (plan.set i (k : Int)) = 0) (ht : thenC ms ns plan i k < (bst ms ns plan i k).2) : bst ms ns plan i (k + 1) = (some k, thenC ms ns plan i k) := by
  refine bst_yes ?_ ht
  by_cases e : plan[i] = (k : Int)
  · have h1 := bst_le ms ns plan i k
    have h2 : thenC ms ns plan i k = nowC ms ns plan := by
      unfold thenC nowC
      rw [set_self hi e]
    omega
  · exact (ok_iff h hi hk e).mp hp
theorem ref_no {ms : List Mc} {ns : List Nd} {plan : List Int} (h : planErr ms ns plan = 0) {i k : Nat} (hi : i < plan.length) (hk : k < ms.length) (hn : ¬ (planErr ms ns (plan.set i (k : Int)) = 0 ∧ thenC ms ns plan i k < (bst ms ns plan i k).2)) : bst ms ns plan i (k + 1) = bst ms ns plan i k := by
  refine bst_no fun ⟨h1, h2⟩ => hn ⟨?_, h2⟩
  by_cases e : plan[i] = (k : Int)
  · rw [set_self hi e]; exact h
  · exact (ok_iff h hi hk e).mpr h1

set_option maxRecDepth 100000 in
set_option maxHeartbeats 8000000 in
theorem betterOf_any {base : Nat} (ms : List Mc) (ns : List Nd) (plan : List Int) (hm : MsOk ms) (hn : NsOk ns) (hp : planErr ms ns plan = 0) {v1 v2 v3 : Value} {w : World} (h1 : MsF base v1 ms w) (h2 : Reads encD v2 ns w) (h3 : Reads encN v3 plan w) :
    Calls Try.prog 18 #[v1, v2, v3] w fun e w' => e = .returned (.tuple #[.int .i64 (btI (btrL ms ns plan)).1, .int .i64 (btI (btrL ms ns plan)).2.1, .bool (btI (btrL ms ns plan)).2.2]) ∧ Below w.heap.size w w' := by
  have HR := Lib.hid (And.intro h1 (And.intro h2 h3))
  obtain ⟨hlen, hI⟩ := planErr_ok hp
  have hmf := hm.few
  have hms := hm.some
  have hnf := hn.few
  have hpl : plan.length ≤ 1000 := by omega
  have C0 := Lib.hid (slowestOf_any ms ns plan hm hn (by omega) h1 h2 h3)
  have CF := Lib.hid (fun (i k : Nat) (W : World) (v : Value) (hb : Below w.heap.size w W) (hv : Reads encN v (plan.set i k) W) => linePlanFault_any ms ns (plan.set i k) hm hn (by rw [List.length_set]; omega) (h1.below hb) (h2.below hb) hv)
  have CS := Lib.hid (fun (i k : Nat) (W : World) (v : Value) (hb : Below w.heap.size w W) (hv : Reads encN v (plan.set i k) W) => slowestOf_any ms ns (plan.set i k) hm hn (by rw [List.length_set]; omega) (h1.below hb) (h2.below hb) hv)
  have HYES := Lib.hid (fun i k hi hk => @ref_yes ms ns plan hp i k hi hk)
  have HNOO := Lib.hid (fun i k hi hk => @ref_no ms ns plan hp i k hi hk)
  obtain ⟨A1, c1, rfl, hc1, _⟩ := h1
  obtain ⟨A2, c2, rfl, _⟩ := h2
  obtain ⟨A3, c3, rfl, _⟩ := h3
  have HBT : Hid (btrL ms ns plan = btr ms ns plan (plan.length - 0) 0) := rfl
  have HNOW : Hid (slowC (cyL ms ns plan) = nowC ms ns plan) := rfl
  have HNO := Lib.hid (fun i => bst_none ms ns plan i ms.length)
  rw [HNOW.out] at C0
  generalize btrL ms ns plan = BT at *
  generalize hnow : nowC ms ns plan = now at *
  have HNW := Lib.hid hnow
  clear hm hn hI hlen hp HNOW hnow
  generalize slow (cyL ms ns plan) = sa at *
  go_enter Try.func18, Try.ntmps18
  go_wp2_with fail
  refine C0.out.mono ?_
  rintro e w4 ⟨rfl, b4⟩
  have HB4 := Lib.hid b4
  clear b4 C0
  go_wp2_with fail
  go_loopw [27] (fun kk wr => ∃ i : Nat, i ≤ plan.length ∧ kk = .int .i64 i ∧ Hid (Below w4.heap.size w4 wr ∧ BT = btr ms ns plan (plan.length - i) i)) (fun kk _ => plan.length - (intOf kk).toNat)
  case atStart => exact ⟨0, by omega, rfl, Below.refl _ _, HBT.out⟩
  case round =>
    clear HBT
    obtain ⟨i, hi, rfl, HS⟩ := hrel
    by_cases hil : i < plan.length
    · have HB0 := Lib.hid HS.out.1
      have HBT2 : Hid (BT = btr ms ns plan ((plan.length - (i + 1)) + 1) i) := HS.out.2.trans (by rw [show plan.length - i = (plan.length - (i + 1)) + 1 by omega])
      clear HS
      have i1 : (0 : Int) ≤ (i : Int) := by omega
      have i2 : (i : Int) < (plan.length : Int) := by omega
      obtain ⟨wq, hwq⟩ : ∃ wq : World, wq = wr := ⟨_, rfl⟩
      rw [← hwq] at HB0 ⊢
      clear hwq
      go_wp2_with fail
      go_loopw [12, 13, 33] (fun v14 v15 kk wr => ∃ k : Nat, k ≤ ms.length ∧ kk = .int .i64 k ∧ v14 = .int .i64 (tmI (bst ms ns plan i k).1) ∧ v15 = .int .i64 (bst ms ns plan i k).2 ∧ Hid (Below w4.heap.size w4 wr)) (fun _ _ kk _ => ms.length - (intOf kk).toNat)
      case atStart => exact ⟨0, by omega, rfl, rfl, by show _ = Value.int .i64 (nowC ms ns plan); rw [HNW.out], HB0⟩
      case round =>
        clear HB0
        obtain ⟨k, hk, rfl, rfl, rfl, HB⟩ := hrel
        by_cases hkl : k < ms.length
        · have HY := Lib.hid (HYES.out i k hil hkl)
          have HNB := Lib.hid (HNOO.out i k hil hkl)
          generalize hto : tmI (bst ms ns plan i k).1 = to_ at *
          generalize hle : (bst ms ns plan i k).2 = least at *
          have HTL := Lib.hid (And.intro hto hle)
          clear hto hle
          have i3 : (0 : Int) ≤ (k : Int) := by omega
          have i4 : (k : Int) < (ms.length : Int) := by omega
          have CC := Lib.hid (cloneI_any plan (by omega) (HR.out.2.2.below (HB4.out.then_below HB.out HB4.out.size)))
          go_wp2_with fail
          refine CC.out.mono ?_
          rintro e w6 ⟨v6, rfl, hown, b6⟩
          obtain ⟨gc, cc, rfl, hbc, hltc, hnc, _, hrd⟩ := own_read hown (by omega)
          have hcell := hrd i (.int .i64 plan[i]) (by rw [List.getElem?_map, List.getElem?_eq_getElem hil]; rfl)
          have hfro := own_frozen hown i
          have hset := own_set hown i (.int .i64 k)
          rw [show (plan.map (Value.int .i64)).set i (.int .i64 k) = (plan.set i (k : Int)).map (Value.int .i64) from (List.map_set ..).symm] at hset
          have HS6 : Hid (Below w4.heap.size w4 (w6.setCell ⟨gc, i, none⟩ (.int .i64 k)) ∧ Reads encN (.slice (some ⟨gc, 0, none⟩) plan.length cc) (plan.set i (k : Int)) (w6.setCell ⟨gc, i, none⟩ (.int .i64 k))) := by
            refine ⟨(HB.out.then_below b6 HB.out.size).setCell ?_ _, readsN_own' hset (by rw [List.length_set])⟩
            have := HB.out.size
            show w4.heap.size ≤ gc
            omega
          clear hown hrd hset b6 CC
          go_upto_region 11 with (fail)
          generalize w6.setCell ⟨gc, i, none⟩ (.int .i64 k) = w7 at *
          clear hcell hfro hltc
          have CP := Lib.hid (CF.out i k w7 _ (HB4.out.then_below HS6.out.1 HB4.out.size) HS6.out.2)
          have CQ := Lib.hid (fun (W : World) (hb : Below w7.heap.size w7 W) => CS.out i k W _ (HB4.out.then_below (HS6.out.1.then_below hb HS6.out.1.size) HB4.out.size) (HS6.out.2.below hb))
          generalize planErr ms ns (plan.set i (k : Int)) = pe at *
          go_wp2_with fail
          refine CP.out.mono ?_
          rintro e w8 ⟨rfl, b8⟩
          have HB8 := Lib.hid b8
          have HBW8 := Lib.hid (HS6.out.1.then_below b8 HS6.out.1.size)
          clear b8 CP
          by_cases hpe : pe = 0
          case neg =>
            have HF : Hid (bst ms ns plan i (k + 1) = bst ms ns plan i k) := HNB.out (fun h => hpe h.1)
            have hpe2 : (pe != 0) = true := bne_iff_ne.mpr hpe
            clear hpe
            go_wp2_with fail
            clear hpe2
            go_roundw
            case rel => exact ⟨k + 1, by omega, by go_num, by rw [HF.out, HTL.out.1], by rw [HF.out, HTL.out.2], HBW8.out⟩
            case measure => simp [intOf]; omega
          case pos =>
            subst hpe
            go_wp2_with fail
            refine (CQ.out _ HB8.out).mono ?_
            rintro e w9 ⟨rfl, b9⟩
            have HB9 := Lib.hid (HBW8.out.then_below b9 HBW8.out.size)
            have HTH : Hid (slowC (cyL ms ns (plan.set i (k : Int))) = thenC ms ns plan i k) := rfl
            rw [HTH.out]
            clear b9 HTH CQ
            generalize slow (cyL ms ns (plan.set i (k : Int))) = sb at *
            generalize thenC ms ns plan i k = th at *
            by_cases hth : th < least
            · have HF := Lib.hid (HY.out (by trivial) hth)
              go_wp2_with fail
              go_roundw
              case rel => exact ⟨k + 1, by omega, by go_num, by rw [HF.out]; rfl, by rw [HF.out], HB9.out⟩
              case measure => simp [intOf]; omega
            · have HF : Hid (bst ms ns plan i (k + 1) = bst ms ns plan i k) := HNB.out (fun h => hth h.2)
              go_wp2_with fail
              go_roundw
              case rel => exact ⟨k + 1, by omega, by go_num, by rw [HF.out, HTL.out.1], by rw [HF.out, HTL.out.2], HB9.out⟩
              case measure => simp [intOf]; omega
        · obtain rfl : k = ms.length := by omega
          have HBS := Lib.hid (fun (q : Nat) (h : (bst ms ns plan i ms.length).1 = some q) => HBT2.out.trans (btr_some h))
          have HBN := Lib.hid (fun (h : (bst ms ns plan i ms.length).1 = none) => HBT2.out.trans (btr_none h))
          generalize bst ms ns plan i ms.length = B at *
          obtain ⟨o, least⟩ := B
          dsimp only at HBS HBN ⊢
          cases o with
          | none =>
            have HF := Lib.hid (HBN.out rfl)
            unfold tmI
            go_wp2_with fail
            go_roundw
            case rel => exact ⟨i + 1, by omega, by go_num, HB.out, HF.out⟩
            case measure => simp [intOf]; omega
          | some q =>
            have HF := Lib.hid (HBS.out q rfl)
            have HBW := Lib.hid (HB4.out.then_below HB.out HB4.out.size)
            have hq0 : (0 : Int) ≤ (q : Int) := by omega
            unfold tmI
            go_wp2_with fail
            refine bodyPost_ret (v := .tuple #[.int .i64 i, .int .i64 q, .bool true]) (by unfold results; simp only [Try.results18]; go_simp) rfl ⟨by rw [HF.out]; rfl, HBW.out⟩
    · have HF : Hid (BT = none) := HS.out.2.trans (by rw [show plan.length - i = 0 by omega]; rfl)
      have HBW := Lib.hid (HB4.out.then_below HS.out.1 HB4.out.size)
      go_wp2_with fail
      refine bodyPost_ret (v := .tuple #[.int .i64 0, .int .i64 0, .bool false]) (by unfold results; simp only [Try.results18]; go_simp) rfl ⟨by rw [HF.out]; rfl, HBW.out⟩
end Go.Proofs.Ytjmjmijjdgolfaa
