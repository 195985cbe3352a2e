/-
  Cycles and the slowest machine: the program's answers, and the reference's.
-/
import Derived.Test.YtmjonmoagpkdiabGreatDoorLcH
import Derived.Test.YtmjonmoagpkdiabGreatDoorLnS
namespace Go.Proofs.YtmjonmoagpkdiabGreatDoor
open Go.RowKit
set_option linter.unusedSimpArgs false
set_option linter.unusedVariables false

theorem allErr_ok {ms : List Mc} {ns : List Nd} {plan : List Int} (h : allErr ms ns plan = 0) : MsOk ms ∧ NsOk ns ∧ planErr ms ns plan = 0 := by
  unfold allErr thenL at h
  split at h
  · rename_i h0
    exact ⟨machErr_ok (bothErr_ok h0).1, needErr_ok (bothErr_ok h0).2, h⟩
  · contradiction
theorem planErr_ok {ms : List Mc} {ns : List Nd} {plan : List Int} (h : planErr ms ns plan = 0) : plan.length = ns.length ∧ Idx ms plan := by
  unfold planErr at h
  split at h
  · cases h
  rename_i h0
  unfold thenL at h
  split at h
  · rename_i h1
    exact ⟨by omega, pErr_ok ms plan ns (by omega) h1⟩
  · contradiction
theorem cyS_nil (f each k : Int) (plan : List Int) (ns : List Nd) : f = f + cyS each k (plan.take 0) ns := by
  rw [List.take_zero]
  simp [cyS]
def cyV (ms : List Mc) (ns : List Nd) (plan : List Int) : List Int := if allErr ms ns plan = 0 then cyL ms ns plan else []
def slV (ms : List Mc) (ns : List Nd) (plan : List Int) : Int × Int := if allErr ms ns plan = 0 then (((slow (cyL ms ns plan) : Nat) : Int), slowC (cyL ms ns plan)) else (0, 0)

set_option maxRecDepth 100000 in
set_option maxHeartbeats 8000000 in
theorem cycles_any {base : Nat} (ms : List Mc) (ns : List Nd) (plan : List Int) (hl : ms.length ≤ 1000000) (hc : ∀ m ∈ ms, m.can.length ≤ 1000000) (hn : ns.length ≤ 1000000) (hpl : plan.length ≤ 1000000) {v1 v2 v3 : Value} {w : World} (h1 : MsF base v1 ms w) (h2 : Reads encD v2 ns w) (h3 : Reads encN v3 plan w) :
    Calls Tryz.prog 7 #[v1, v2, v3] w fun e w' => ∃ v, e = .returned (.tuple #[v, .int .i64 (allErr ms ns plan)]) ∧ Reads encN v (cyV ms ns plan) w' ∧ Below w.heap.size w w' := by
  have HR := Lib.hid (And.intro h1 (And.intro h2 h3))
  have CC := Lib.hid (checkPlan_any ms ns plan hl hc hn hpl h1 h2 h3)
  obtain ⟨A1, c1, rfl, hc1, _⟩ := h1
  obtain ⟨A2, c2, rfl, _⟩ := h2
  obtain ⟨A3, c3, rfl, _⟩ := h3
  by_cases h0 : allErr ms ns plan = 0
  rotate_left
  · have HV : Hid (cyV ms ns plan = []) := if_neg h0
    have hne : (allErr ms ns plan != 0) = true := by simp [h0]
    generalize allErr ms ns plan = E at *
    generalize cyV ms ns plan = CV at *
    clear h0
    go_enter Tryz.func7, Tryz.ntmps7
    go_wp2_with fail
    refine CC.out.mono ?_
    rintro e w2 ⟨rfl, b2⟩
    have HB := Lib.hid b2
    clear b2 CC
    go_wp2_with fail
    refine bodyPost_ret (v := .tuple #[.slice none 0 0, .int .i64 E]) (by unfold results; simp only [Tryz.results7]; go_simp) rfl ⟨_, rfl, ?_, HB.out⟩
    rw [HV.out]
    exact nil_readsN _
  obtain ⟨hM, hN, hP⟩ := allErr_ok h0
  obtain ⟨hlen, hI⟩ := planErr_ok hP
  have HV : Hid (cyV ms ns plan = cyL ms ns plan) := if_pos h0
  have hms := hM.few
  have CL := Lib.hid (fun (W : World) (hb : Below w.heap.size w W) => loads_any ms ns plan hM hN hI (by omega) (h1 := HR.out.1.below hb) (h2 := HR.out.2.1.below hb) (h3 := HR.out.2.2.below hb))
  rw [h0] at CC ⊢
  have HLEN := Lib.hid hlen
  generalize cyV ms ns plan = CV at *
  clear h0 hP hM hN hI hlen
  go_enter Tryz.func7, Tryz.ntmps7
  go_wp2_with fail
  refine CC.out.mono ?_
  rintro e w2 ⟨rfl, b2⟩
  have HB := Lib.hid b2
  clear b2 CC
  go_wp2_with fail
  refine (CL.out w2 HB.out).mono ?_
  rintro e w3 ⟨gb, rfl, hLS⟩
  have HL := Lib.hid hLS
  have HB3 := Lib.hid (HB.out.then_below hLS.bel HB.out.size)
  clear hLS CL HB
  go_wp2_with fail
  go_loopw [9, 24] (fun v9 kk wr => ∃ (b : Nat), b ≤ ms.length ∧ kk = .int .i64 b ∧ w.heap.size ≤ wr.heap.size ∧ Hid (Below w3.heap.size w3 wr ∧ wr.ownsRow w3.heap.size 3 1 v9 b (((cyL ms ns plan).take b).map (Value.int .i64)))) (fun _ kk _ => ms.length - (intOf kk).toNat)
  case atStart => exact ⟨0, by omega, rfl, HB3.out.size, Below.refl _ _, World.ownsRow_nil _ _ _ _⟩
  case round =>
    obtain ⟨b, hb2, rfl, hwz, HS⟩ := hrel
    obtain ⟨A5, c5, rfl, _⟩ := own_form HS.out.2
    by_cases hbm : b < ms.length
    · have hLb : b < (ldL ms ns plan).length := by rw [ldL_len]; exact hbm
      have HLN : Hid ((cyL ms ns plan).take (b + 1) = (cyL ms ns plan).take b ++ [cyOf ms[b] b plan ns]) := by
        show _ = _
        rw [List.take_succ_eq_append_getElem (by rw [cyL_len]; exact hbm), cyL_at _ _ _ hbm]
      obtain ⟨l0, l1⟩ := (HL.out.then_ HS.out.1).at_ hLb
      rw [ldL_at _ _ _ hbm] at l0 l1
      dsimp only at l0 l1
      have hgb := lt_of_blk (HL.out.then_ HS.out.1).row
      generalize cyOf ms[b] b plan ns = X at *
      generalize (plan.count (b : Int) : Int) = Y at *
      have i3 : (0 : Int) ≤ (b : Int) := by omega
      have i4 : (b : Int) < (ms.length : Int) := by omega
      obtain ⟨i0, hi0, hz0, hzz1, hz20⟩ := info_parts int_infoN
      have HI := Lib.hid (And.intro hi0 (And.intro hz0 (And.intro hzz1 hz20)))
      clear hi0 hz0 hzz1 hz20
      have H1 : Hid (Below w3.heap.size w3 (wr.alloc (.cells #[.int .i64 X, .int .i64 Y] 59)) ∧ (wr.alloc (.cells #[.int .i64 X, .int .i64 Y] 59)).ownsRow w3.heap.size 3 1 (.slice A5 b c5) b (((cyL ms ns plan).take b).map (Value.int .i64)) ∧ (wr.alloc (.cells #[.int .i64 X, .int .i64 Y] 59)).heap[wr.heap.size]? = some (.cells #[.int .i64 X, .int .i64 Y] 59 (0, 0))) :=
        ⟨HS.out.1.alloc HS.out.1.size _, HS.out.2.alloc _, blk_new wr _ rfl⟩
      go_upto_region 8 with (fail)
      generalize wr.alloc (.cells #[.int .i64 X, .int .i64 Y] 59) = wx at *
      generalize wr.heap.size = gp at *
      obtain ⟨e1, e2⟩ := blk2c H1.out.2.2
      have hle := lt_of_blk H1.out.2.2
      have hz1 := H1.out.1.size
      have hz3 := HB3.out.size
      clear l0 l1 hgb HS
      go_wp2_with (at_builtin; refine hold ?_)
      refine loose ?_
      refine wpList_append_own _ rfl _ _ 22 rfl w3.heap.size 3 i0 _ 1 8 Tryz.underlying22 HI.out.1 HI.out.2.1 HI.out.2.2.1 HI.out.2.2.2 rfl (by omega) _ b (((cyL ms ns plan).take b).map (Value.int .i64)) rfl (H1.out.2.1.alloc _) ⟨wx.heap.size, 0, none⟩ 1 1 [.int .i64 X] rfl rfl (cell_one_new _ _ _) (by intro u hu; simp at hu; subst hu; rfl) (by unfold maxLen; omega) (by omega) (by simp; omega) ?_
      intro v' w4 hown' hg' _
      have H4 : Hid (Below w3.heap.size w3 w4 ∧ w4.ownsRow w3.heap.size 3 1 v' (b + 1) (((cyL ms ns plan).take (b + 1)).map (Value.int .i64))) := by
        refine ⟨(H1.out.1.alloc H1.out.1.size _).grown hg' (by simp; omega) (own_row H1.out.2.1), ?_⟩
        rw [HLN.out, List.map_append]
        exact hown'
      have hz4 : w.heap.size ≤ w4.heap.size := by have := H4.out.1.size; omega
      clear hown' hg' H1 e1 e2 hle
      go_wp2_with fail
      go_roundw
      case rel => exact ⟨b + 1, by omega, by go_num, hz4, H4⟩
      case measure => simp [intOf]; omega
    · obtain rfl : b = ms.length := by omega
      have hz3 := HB3.out.size
      go_wp2_with fail
      refine bodyPost_ret (v := .tuple #[.slice A5 ms.length c5, .int .i64 0]) (by unfold results; simp only [Tryz.results7]; go_simp) rfl ⟨_, rfl, ?_, HB3.out.then_below HS.out.1 hz3⟩
      rw [HV.out]
      have h := HS.out.2
      rw [List.take_of_length_le (by rw [cyL_len]; exact Nat.le_refl _)] at h
      exact readsN_own' h (cyL_len ms ns plan).symm

end Go.Proofs.YtmjonmoagpkdiabGreatDoor
