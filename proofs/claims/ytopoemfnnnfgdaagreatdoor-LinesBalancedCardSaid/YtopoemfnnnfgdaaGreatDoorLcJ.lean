/-
  Cycles and the slowest machine: the reference's answers.
-/
import Derived.Test.YtopoemfnnnfgdaaGreatDoorLcI
namespace Go.Proofs.YtopoemfnnnfgdaaGreatDoor
open Go.RowKit
set_option linter.unusedSimpArgs false
set_option linter.unusedVariables false

set_option maxRecDepth 100000 in
set_option maxHeartbeats 8000000 in
theorem cyclesOf_any {base : Nat} (ms : List Mc) (ns : List Nd) (plan : List Int) (hm : MsOk ms) (hn : NsOk ns) (hpl : plan.length ≤ ns.length) {v1 v2 v3 : Value} {w : World} (h1 : MsF base v1 ms w) (h2 : Reads encD v2 ns w) (h3 : Reads encN v3 plan w) :
    Calls Tryz.prog 42 #[v1, v2, v3] w fun e w' => ∃ v, e = .returned v ∧ w'.ownsRow w.heap.size 3 1 v ms.length ((cyL ms ns plan).map (Value.int .i64)) ∧ Below w.heap.size w w' := by
  have HR := Lib.hid (And.intro h1 (And.intro h2 h3))
  have HM := Lib.hid hm
  have HN := Lib.hid hn
  have hmf := hm.few
  have hnf := hn.few
  obtain ⟨A1, c1, rfl, hc1, _⟩ := h1
  obtain ⟨A2, c2, rfl, _⟩ := h2
  obtain ⟨A3, c3, rfl, _⟩ := h3
  clear hm hn
  go_enter Tryz.func42, Tryz.ntmps42
  go_wp2_with fail
  go_loopw [7, 15] (fun v7 kk wr => ∃ (b : Nat), b ≤ ms.length ∧ kk = .int .i64 b ∧ Hid (Below w.heap.size w wr ∧ wr.ownsRow w.heap.size 3 1 v7 b (((cyL ms ns plan).take b).map (Value.int .i64)))) (fun _ kk _ => ms.length - (intOf kk).toNat)
  case atStart => exact ⟨0, by omega, rfl, Below.refl _ _, World.ownsRow_nil _ _ _ _⟩
  case round =>
    obtain ⟨b, hb2, rfl, HS⟩ := hrel
    obtain ⟨A5, c5, rfl, _⟩ := own_form HS.out.2
    by_cases hbm : b < ms.length
    · have HLN : Hid ((cyL ms ns plan).take (b + 1) = (cyL ms ns plan).take b ++ [cyOf ms[b] b plan ns]) := by
        show _ = _
        rw [List.take_succ_eq_append_getElem (by rw [cyL_len]; exact hbm), cyL_at _ _ _ hbm]
      obtain ⟨g1, e1, hg1, q0, q1, q2, q3, u, q4, A4, c4, rfl, _⟩ := (HR.out.1.below HS.out.1).at_ hbm
      cases e1
      have hmo := HM.out.ok _ (List.getElem_mem hbm)
      have HCB : Hid (∀ t, 0 ≤ cyS ms[b].each b (plan.take t) ns ∧ cyS ms[b].each b (plan.take t) ns ≤ 10000000000000) := fun t => by
        have := cyS_bound ms[b].each b hmo.each (plan.take t) ns HN.out.many
        omega
      have HCY : Hid (cyOf ms[b] b plan ns = ms[b].fixed + cyS ms[b].each b plan ns) := rfl
      have HCT := Lib.hid (fun t h1 h2 => cyS_take ms[b].each b plan ns t h1 h2)
      have hea := hmo.each
      have hfi := hmo.fixed
      clear hmo
      generalize cyOf ms[b] b plan ns = X at *
      generalize ms[b] = m at *
      obtain ⟨key, each, fixed, feed, can⟩ := m
      dsimp only at q0 q1 q2 q3 q4 HCB HCY HCT hea hfi
      have i3 : (0 : Int) ≤ (b : Int) := by omega
      have i4 : (b : Int) < (ms.length : Int) := by omega
      have H1 : Hid (Below w.heap.size w (wr.alloc (.cells #[.string key, .int .i64 each, .int .i64 fixed, .int .i64 feed, .slice A4 can.length c4] 57)) ∧ (wr.alloc (.cells #[.string key, .int .i64 each, .int .i64 fixed, .int .i64 feed, .slice A4 can.length c4] 57)).ownsRow w.heap.size 3 1 (.slice A5 b c5) b (((cyL ms ns plan).take b).map (Value.int .i64)) ∧ (wr.alloc (.cells #[.string key, .int .i64 each, .int .i64 fixed, .int .i64 feed, .slice A4 can.length c4] 57)).heap[wr.heap.size]? = some (.cells #[.string key, .int .i64 each, .int .i64 fixed, .int .i64 feed, .slice A4 can.length c4] 57 (0, 0))) :=
        ⟨HS.out.1.alloc HS.out.1.size _, HS.out.2.alloc _, blk_new wr _ rfl⟩
      go_upto_region 5 with (fail)
      generalize wr.alloc (.cells #[.string key, .int .i64 each, .int .i64 fixed, .int .i64 feed, .slice A4 can.length c4] 57) = wx at *
      obtain ⟨gp, hgp⟩ : ∃ gp, wr.heap.size = gp := ⟨_, rfl⟩
      rw [hgp] at H1 ⊢
      clear hgp
      obtain ⟨e0, e1, e2, e3, e4⟩ := blk5 H1.out.2.2
      have hle := lt_of_blk H1.out.2.2
      clear q0 q1 q2 q3 q4 HS
      go_wp2_with fail
      clear e0 e1 e2 e3 e4 hle
      go_loopw [10, 24] (fun v10 kk wr => ∃ (t : Nat) (T : Int), t ≤ plan.length ∧ kk = .int .i64 t ∧ v10 = .int .i64 T ∧ Hid (T = fixed + cyS each b (plan.take t) ns ∧ Below wx.heap.size wx wr)) (fun _ kk _ => plan.length - (intOf kk).toNat)
      case atStart => exact ⟨0, fixed, by omega, rfl, rfl, cyS_nil fixed each b plan ns, Below.refl _ _⟩
      case round =>
        obtain ⟨t, T, ht, rfl, rfl, HI⟩ := hrel
        by_cases htl : t < plan.length
        · have hnt : t < ns.length := by omega
          have hHI := HI.out
          have HBW := Lib.hid (H1.out.1.then_below hHI.2 H1.out.1.size)
          obtain ⟨g3, e3, hg3, d0⟩ := readsN_at (HR.out.2.2.below HBW.out) htl
          obtain ⟨g2, e2, hg2, n0, n1⟩ := readsD_at (HR.out.2.1.below HBW.out) hnt
          cases e3
          cases e2
          have hT := HCB.out t
          have HT : Hid (T = fixed + cyS each b (plan.take t) ns) := hHI.1
          have hTe := hHI.1
          have HSTE := Lib.hid (HCT.out t htl hnt)
          have hma := HN.out.many _ (List.getElem_mem hnt)
          obtain ⟨p0, p1, p2, p3, p4⟩ := blk5 (blk_below hHI.2 H1.out.2.2)
          have pl := lt_of_blk (blk_below hHI.2 H1.out.2.2)
          have HBX := Lib.hid hHI.2
          have b1 : 0 ≤ each * ns[t].many := Int.mul_nonneg hea.1 (by omega)
          have b2 : each * ns[t].many ≤ 10000000 * 1000 := Int.mul_le_mul hea.2 hma.2 (by omega) (by omega)
          have hw1 : IntKind.i64.wrap (each * ns[t].many) = each * ns[t].many := IntWalk.i64_in _ (by omega)
          have hw2 : IntKind.i64.wrap (T + each * ns[t].many) = T + each * ns[t].many := IntWalk.i64_in _ (by omega)
          clear hHI HI hTe hT b1 b2
          generalize plan[t] = kx at *
          generalize ns[t] = nd at *
          obtain ⟨part, many⟩ := nd
          dsimp only at n0 n1 hw1 hw2 HSTE hma
          have i1 : (0 : Int) ≤ (t : Int) := by omega
          have i2 : (t : Int) < (plan.length : Int) := by omega
          have i5 : (t : Int) < (ns.length : Int) := by omega
          by_cases hkb : kx = (b : Int)
          · have HF : Hid (T + each * many = fixed + cyS each b (plan.take (t + 1)) ns) := by rw [HSTE.out, if_pos hkb, HT.out]; show _ = _; omega
            subst hkb
            go_wp2_with fail
            go_quiet (fail)
            go_wp2_with fail
            go_roundw
            case rel => exact ⟨t + 1, T + each * many, by omega, by go_num, rfl, HF.out, HBX.out.drawN _⟩
            case measure => simp [intOf]; omega
          · have HF : Hid (T = fixed + cyS each b (plan.take (t + 1)) ns) := by rw [HSTE.out, if_neg hkb]; show _ = _; rw [HT.out]; omega
            have hkb2 : (kx == (b : Int)) = false := beq_eq_false_iff_ne.mpr hkb
            clear hkb hw1 hw2
            go_wp2_with fail
            clear hkb2
            go_roundw
            case rel => exact ⟨t + 1, T, by omega, by go_num, rfl, HF.out, HBX.out⟩
            case measure => simp [intOf]; omega
        · obtain rfl : t = plan.length := by omega
          have HTX : Hid (T = X) := by
            rw [HCY.out]
            have := HI.out.1
            rw [List.take_of_length_le (Nat.le_refl _)] at this
            exact this
          obtain ⟨i0, hi0, hz0, hzz1, hz20⟩ := info_parts int_infoN
          have HII := Lib.hid (And.intro hi0 (And.intro hz0 (And.intro hzz1 hz20)))
          clear hi0 hz0 hzz1 hz20
          have HB2 := Lib.hid HI.out.2
          have HB5 : Hid (Below w.heap.size w wr ∧ wr.ownsRow w.heap.size 3 1 (.slice A5 b c5) b (((cyL ms ns plan).take b).map (Value.int .i64))) := ⟨H1.out.1.then_below HB2.out H1.out.1.size, own_below H1.out.2.1 HB2.out⟩
          have hz5 := HB5.out.1.size
          clear HI H1 HB2
          go_wp2_with (at_builtin; refine hold ?_)
          refine loose ?_
          refine wpList_append_own _ rfl _ _ 22 rfl w.heap.size 3 i0 _ 1 8 Tryz.underlying22 HII.out.1 HII.out.2.1 HII.out.2.2.1 HII.out.2.2.2 rfl (by omega) _ b (((cyL ms ns plan).take b).map (Value.int .i64)) rfl (HB5.out.2.alloc _) ⟨wr.heap.size, 0, none⟩ 1 1 [.int .i64 T] rfl rfl (cell_one_new _ _ _) (by intro u hu; simp at hu; subst hu; rfl) (by unfold maxLen; omega) (by omega) (by simp; omega) ?_
          intro v' w4 hown' hg' _
          have H4 : Hid (Below w.heap.size w w4 ∧ w4.ownsRow w.heap.size 3 1 v' (b + 1) (((cyL ms ns plan).take (b + 1)).map (Value.int .i64))) := by
            refine ⟨(HB5.out.1.alloc HB5.out.1.size _).grown hg' (by simp; omega) (own_row HB5.out.2), ?_⟩
            rw [HLN.out, ← HTX.out, List.map_append]
            exact hown'
          clear hown' hg' HB5
          go_wp2_with fail
          go_roundw
          case rel => exact ⟨b + 1, by omega, by go_num, H4⟩
          case measure => simp [intOf]; omega
    · obtain rfl : b = ms.length := by omega
      go_wp2_with fail
      go_ret
      refine ⟨_, rfl, ?_, HS.out.1⟩
      have h := HS.out.2
      rw [List.take_of_length_le (by rw [cyL_len]; exact Nat.le_refl _)] at h
      exact h

end Go.Proofs.YtopoemfnnnfgdaaGreatDoor
