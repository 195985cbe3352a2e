/-
  The checks of machines and needs: the program's.
-/
import Derived.Test.YtmjonmoagpkdiabGreatDoorLcB
import Derived.Test.YtmjonmoagpkdiabGreatDoorRg
namespace Go.Proofs.YtmjonmoagpkdiabGreatDoor
open Go.RowKit
set_option linter.unusedSimpArgs false
set_option linter.unusedVariables false

set_option maxRecDepth 100000 in
set_option maxHeartbeats 4000000 in
theorem checkMachines_any (ms : List Mc) (hl : ms.length ≤ 1000000) (hc : ∀ m ∈ ms, m.can.length ≤ 1000000) {base : Nat} {v : Value} {w : World} (h : MsF base v ms w) :
    Calls Tryz.prog 35 #[v] w fun e w' => e = .returned (.int .i64 (machErr ms)) ∧ Below w.heap.size w w' := by
  have HH := Lib.hid h
  have HE : Hid (machErr ms = if ms.length = 0 then 8 else if 6 < ms.length then 2 else mcsErr [] ms) := rfl
  obtain ⟨A, c, rfl, hcp, _⟩ := h
  generalize machErr ms = E at *
  by_cases h0 : ms.length = 0
  · have HF : Hid (E = 8) := HE.out.trans (if_pos h0)
    rw [h0]
    clear h0 HE hcp HH
    go_enter Tryz.func35, Tryz.ntmps35
    go_wp2_with fail
    go_ret
    exact ⟨ret_int HF.out.symm, Below.refl _ _⟩
  have HE1 := Lib.hid (HE.out.trans (if_neg h0))
  clear HE
  by_cases h6 : 6 < ms.length
  · have HF : Hid (E = 2) := HE1.out.trans (if_pos h6)
    clear HE1
    go_enter Tryz.func35, Tryz.ntmps35
    go_wp2_with fail
    go_ret
    exact ⟨ret_int HF.out.symm, Below.refl _ _⟩
  have HE2 : Hid (E = mcsErr (ms.take 0) (ms.drop 0)) := HE1.out.trans (if_neg h6)
  clear HE1
  have h01 : ((ms.length : Int) == 0) = false := beq_eq_false_iff_ne.mpr (by omega)
  go_enter Tryz.func35, Tryz.ntmps35
  go_wp2_with fail
  clear h0 h01
  go_loopw [14] (fun kk wr => ∃ k : Nat, k ≤ ms.length ∧ kk = .int .i64 k ∧ Hid (Below w.heap.size w wr ∧ E = mcsErr (ms.take k) (ms.drop k))) (fun kk _ => ms.length - (intOf kk).toNat)
  case atStart => exact ⟨0, by omega, rfl, Below.refl _ _, HE2.out⟩
  case round =>
    obtain ⟨k, hk, rfl, HS⟩ := hrel
    by_cases hlt : k < ms.length
    · have hcan := hc ms[k] (List.getElem_mem hlt)
      have HD : Hid (E = if mcErr (ms.take k) ms[k] = 0 then mcsErr (ms.take (k + 1)) (ms.drop (k + 1)) else mcErr (ms.take k) ms[k]) := HS.out.2.trans (mcsErr_drop hlt)
      have hV := HH.out.below HS.out.1
      have HB := Lib.hid HS.out.1
      have HT := Lib.hid (hV.take k hk)
      obtain ⟨A', c', e, _, hr⟩ := hV
      cases e
      rcases hr with rfl | ⟨g, rfl, hgl, hrow⟩
      · simp at hlt
      obtain ⟨q0, q1, q2, q3, u, q4, hu⟩ := hrow k hlt
      clear hrow HS
      have CM := Lib.hid (fun (W : World) (hv : MsF base (.slice (some ⟨g, 0, none⟩) k c) (ms.take k) W) (hu : ReadsF base encS u ms[k].can W) => checkMachine_any (ms.take k) (by rw [List.length_take]; omega) ms[k] hcan hv hu)
      generalize mcErr (ms.take k) ms[k] = E1 at *
      generalize ms[k] = m at *
      obtain ⟨key, each, fixed, feed, can⟩ := m
      dsimp only at q0 q1 q2 q3 hu CM hcan
      have i1 : (0 : Int) ≤ (k : Int) := by omega
      have i2 : (k : Int) < (ms.length : Int) := by omega
      have HX : Hid (Below w.heap.size w (wr.alloc (.cells #[.string key, .int .i64 each, .int .i64 fixed, .int .i64 feed, u] 38)) ∧ MsF base (.slice (some ⟨g, 0, none⟩) k c) (ms.take k) (wr.alloc (.cells #[.string key, .int .i64 each, .int .i64 fixed, .int .i64 feed, u] 38)) ∧ ReadsF base encS u can (wr.alloc (.cells #[.string key, .int .i64 each, .int .i64 fixed, .int .i64 feed, u] 38)) ∧ (wr.alloc (.cells #[.string key, .int .i64 each, .int .i64 fixed, .int .i64 feed, u] 38)).heap[wr.heap.size]? = some (.cells #[.string key, .int .i64 each, .int .i64 fixed, .int .i64 feed, u] 38 (0, 0))) :=
        ⟨HB.out.alloc HB.out.size _, HT.out.below ((Below.refl _ _).alloc (Nat.le_refl _) _), hu.below ((Below.refl _ _).alloc (Nat.le_refl _) _), blk_new wr _ rfl⟩
      obtain ⟨A2, c2, rfl, _, _⟩ := hu
      go_upto_region 8 with (fail)
      generalize wr.alloc (.cells #[.string key, .int .i64 each, .int .i64 fixed, .int .i64 feed, .slice A2 can.length c2] 38) = wx at *
      obtain ⟨p0, p1, p2, p3, p4⟩ := blk5 HX.out.2.2.2
      have pl := lt_of_blk HX.out.2.2.2
      generalize wr.heap.size = gx at *
      clear q0 q1 q2 q3 q4
      have hzx := HX.out.1.size
      have hkc : k ≤ c := by omega
      refine Rg.rgL (fun a b => Below a.heap.size a b)
        [(fun vs u => vs 0 = .agg #[.string key, .int .i64 each, .int .i64 fixed, .int .i64 feed, .slice A2 can.length c2]), (fun vs u => vs 1 = .slice (some ⟨g, 0, none⟩) ms.length c), (fun vs u => vs 2 = .int .i64 k), (fun vs u => vs 3 = .slice (some ⟨g, 0, none⟩) k c)]
        [[], [], [], [1, 2]] [some 19, some 20, some 21, some 22, some 23, some 5] [] (fun _ _ => True) [[], [], [], [1, 2], [0, 1, 2, 3], [0, 1, 2, 3, 4]]
        (by kernel_rfl) (by decide) (by kernel_rfl) (by kernel_rfl) (by kernel_rfl) (by kernel_rfl) (by kernel_rfl) (fun _ => Below.refl _ _) (fun _ _ _ h k => h.ext k) (fun _ _ h => h.size) ?_ trivial ?_ ?_
      · intro t ht vs w w' h hE
        simp only [List.mem_cons, List.not_mem_nil, or_false] at ht
        rcases ht with rfl | rfl | rfl | rfl
        · exact h
        · exact h
        · exact h
        · exact h
      ·
        refine Rg.cons 0 1 rfl (Rg.plain rfl ?_) ?_
        · intro vs W n hn hI hG hT hF K hK
          simp only [Rg.putsD, List.getD_cons_zero, List.getD_cons_succ, Act.put, List.setIfInBounds_toArray, List.set_cons_zero, List.set_cons_succ] at hK ⊢
          clear hn
          clear hF hI
          obtain ⟨c0, c1, c2, c3, c4⟩ := blk5 (blk_below hG HX.out.2.2.2)
          have H := Lib.hid hK
          clear hK hT
          go_simp
          exact H.out _ _ (Below.refl _ _) rfl (fun h => by cases h) trivial
        refine Rg.cons 1 2 rfl (Rg.plain rfl ?_) ?_
        · intro vs W n hn hI hG hT hF K hK
          simp only [Rg.putsD, List.getD_cons_zero, List.getD_cons_succ, Act.put, List.setIfInBounds_toArray, List.set_cons_zero, List.set_cons_succ] at hK ⊢
          clear hn
          clear hF hI
          have H := Lib.hid hK
          clear hK hT
          go_simp
          exact H.out _ _ (Below.refl _ _) rfl (fun h => by cases h) trivial
        refine Rg.cons 2 3 rfl (Rg.plain rfl ?_) ?_
        · intro vs W n hn hI hG hT hF K hK
          simp only [Rg.putsD, List.getD_cons_zero, List.getD_cons_succ, Act.put, List.setIfInBounds_toArray, List.set_cons_zero, List.set_cons_succ] at hK ⊢
          clear hn
          clear hF hI
          have H := Lib.hid hK
          clear hK hT
          go_simp
          exact H.out _ _ (Below.refl _ _) rfl (fun h => by cases h) trivial
        refine Rg.cons 3 4 rfl (Rg.plain rfl ?_) ?_
        · intro vs W n hn hI hG hT hF K hK
          simp only [Rg.putsD, List.getD_cons_zero, List.getD_cons_succ, Act.put, List.setIfInBounds_toArray, List.set_cons_zero, List.set_cons_succ] at hK ⊢
          clear hn
          clear hF hI
          have t1 : vs 1 = .slice (some ⟨g, 0, none⟩) ms.length c := hT 1 (by decide)
          have t2 : vs 2 = .int .i64 k := hT 2 (by decide)
          simp only [t1, t2] at hK
          have H := Lib.hid hK
          clear hK hT
          go_simp
          exact H.out _ _ (Below.refl _ _) rfl (fun h => by cases h) trivial
        exact Rg.nil
      · intro vs W hG hI hT hF
        have t0 : vs 0 = .agg #[.string key, .int .i64 each, .int .i64 fixed, .int .i64 feed, .slice A2 can.length c2] := hT 0 (by decide)
        have t1 : vs 1 = .slice (some ⟨g, 0, none⟩) ms.length c := hT 1 (by decide)
        have t2 : vs 2 = .int .i64 k := hT 2 (by decide)
        have t3 : vs 3 = .slice (some ⟨g, 0, none⟩) k c := hT 3 (by decide)
        simp only [List.length_cons, List.length_nil, Nat.reduceAdd, List.range, List.range.loop, List.drop_succ_cons, List.drop_zero, Rg.putsD, List.getD_cons_zero, List.getD_cons_succ, Act.put, List.setIfInBounds_toArray, List.set_cons_zero, List.set_cons_succ, t0, t1, t2, t3]
        clear hT t0 t1 t2 t3
        have HB2 : Hid (Below w.heap.size w W) := HX.out.1.drew.then_below hG hzx
        have HV2 : Hid (MsF base (.slice (some ⟨g, 0, none⟩) k c) (ms.take k) W ∧ ReadsF base encS (.slice A2 can.length c2) can W) := ⟨HX.out.2.1.below ((Below.refl _ _).drew.then_below hG (Nat.le_refl _)), HX.out.2.2.1.below ((Below.refl _ _).drew.then_below hG (Nat.le_refl _))⟩
        clear hF hI hG p0 p1 p2 p3 p4 pl HX
        go_wp2_with fail
        refine (CM.out _ HV2.out.1 HV2.out.2).mono ?_
        rintro e w6 ⟨rfl, b6⟩
        have HB6 := Lib.hid (HB2.out.then_below b6 HB2.out.size)
        clear b6 HB2 HV2 CM
        by_cases h0 : E1 = 0
        · have HF : Hid (E = mcsErr (ms.take (k + 1)) (ms.drop (k + 1))) := HD.out.trans (if_pos h0)
          subst h0
          go_wp2_with fail
          go_roundw
          case rel => exact ⟨k + 1, by omega, by go_num, HB6.out, HF.out⟩
          case measure => simp [intOf]; omega
        · have HF : Hid (E = E1) := HD.out.trans (if_neg h0)
          go_wp2_with fail
          go_ret
          exact ⟨ret_int HF.out.symm, HB6.out⟩
    · have HF : Hid (E = 0) := HS.out.2.trans (by rw [List.drop_eq_nil_of_le (by omega)]; rfl)
      go_wp2_with fail
      go_ret
      exact ⟨ret_int HF.out.symm, HS.out.1⟩

def prevD (l : List Nd) : Nat → Option ByteArray
  | 0 => none
  | k + 1 => (l[k]?).map Nd.part
theorem prevD_succ {l : List Nd} {k : Nat} (h : k < l.length) : prevD l (k + 1) = some l[k].part := by rw [prevD, List.getElem?_eq_getElem h]; rfl
theorem blk2c {w : World} {g : Nat} {a b : Value} {t : TypeId} (h : w.heap[g]? = some (.cells #[a, b] t (0, 0))) : w.cell? ⟨g, 0, none⟩ = some a ∧ w.cell? ⟨g, 1, none⟩ = some b :=
  ⟨by rw [cell_of_blk h]; rfl, by rw [cell_of_blk h]; rfl⟩

set_option maxHeartbeats 8000000 in
theorem checkNeeds_any (ns : List Nd) (hl : ns.length ≤ 1000000) {v : Value} {w : World} (h : Reads encD v ns w) :
    Calls Tryz.prog 36 #[v] w fun e w' => e = .returned (.int .i64 (needErr ns)) ∧ Below w.heap.size w w' := by
  have HH := Lib.hid h
  have HE : Hid (needErr ns = if 1000 < ns.length then 2 else ndErr ns none) := rfl
  obtain ⟨A, c, rfl, _⟩ := h
  generalize needErr ns = E at *
  by_cases h6 : 1000 < ns.length
  · have HF : Hid (E = 2) := HE.out.trans (if_pos h6)
    clear HE
    go_enter Tryz.func36, Tryz.ntmps36
    go_wp2_with fail
    go_ret
    exact ⟨ret_int HF.out.symm, Below.refl _ _⟩
  have HE2 : Hid (E = ndErr (ns.drop 0) (prevD ns 0)) := HE.out.trans (if_neg h6)
  clear HE
  go_enter Tryz.func36, Tryz.ntmps36
  go_wp2_with fail
  go_loopw [10] (fun kk wr => ∃ k : Nat, k ≤ ns.length ∧ kk = .int .i64 k ∧ Hid (Below w.heap.size w wr ∧ E = ndErr (ns.drop k) (prevD ns k))) (fun kk _ => ns.length - (intOf kk).toNat)
  case atStart => exact ⟨0, by omega, rfl, Below.refl _ _, HE2.out⟩
  case round =>
    obtain ⟨k, hk, rfl, HS⟩ := hrel
    by_cases hlt : k < ns.length
    · have HD : Hid (E = if keyB ns[k].part = false then 5 else if (prevD ns k).any (leS ns[k].part) = true then 7 else if inR ns[k].many 1 1000 = false then 1 else ndErr (ns.drop (k + 1)) (some ns[k].part)) := HS.out.2.trans (by rw [drop_at ns hlt, ndErr])
      have HB := Lib.hid HS.out.1
      obtain ⟨A', c', e, hr⟩ := HH.out.below HS.out.1
      cases e
      rcases hr with rfl | ⟨g, rfl, hrow⟩
      · simp at hlt
      obtain ⟨q0, q1⟩ := row_d hrow hlt
      have hgl := hrow.1
      have HROW := Lib.hid hrow
      have HN := Lib.hid (prevD_succ hlt)
      clear hrow HS
      have HPR : Hid (∀ hk0 : 0 < k, prevD ns k = some (ns[k - 1]'(by omega)).part ∧ wr.cell? ⟨g, (k - 1) * 2, none⟩ = some (.string (ns[k - 1]'(by omega)).part)) := fun hk0 => by
        refine ⟨?_, (row_d HROW.out (show k - 1 < ns.length by omega)).1⟩
        obtain ⟨j, rfl⟩ : ∃ j, k = j + 1 := ⟨k - 1, by omega⟩
        exact prevD_succ (show j < ns.length by omega)
      have HP0 : Hid (k = 0 → prevD ns k = none) := fun h => by rw [h]; rfl
      generalize ns[k] = n at *
      obtain ⟨part, many⟩ := n
      dsimp only at q0 q1 HD HN
      have i1 : (0 : Int) ≤ (k : Int) := by omega
      have i2 : (k : Int) < (ns.length : Int) := by omega
      have HX : Hid (Below w.heap.size w (wr.alloc (.cells #[.string part, .int .i64 many] 36)) ∧ Below wr.heap.size wr (wr.alloc (.cells #[.string part, .int .i64 many] 36)) ∧ (wr.alloc (.cells #[.string part, .int .i64 many] 36)).heap[wr.heap.size]? = some (.cells #[.string part, .int .i64 many] 36 (0, 0))) :=
        ⟨HB.out.alloc HB.out.size _, (Below.refl _ _).alloc (Nat.le_refl _) _, blk_new wr _ rfl⟩
      go_upto_region 6 with (fail)
      generalize wr.alloc (.cells #[.string part, .int .i64 many] 36) = wx at *
      obtain ⟨p0, p1⟩ := blk2c HX.out.2.2
      have pl := lt_of_blk HX.out.2.2
      have hglx : g < wx.heap.size := Nat.lt_of_lt_of_le hgl HX.out.2.1.size
      have HPX : Hid (∀ hk0 : 0 < k, prevD ns k = some (ns[k - 1]'(by omega)).part ∧ wx.cell? ⟨g, (k - 1) * 2, none⟩ = some (.string (ns[k - 1]'(by omega)).part)) := fun hk0 => ⟨(HPR.out hk0).1, (HX.out.2.1.cell (p := ⟨g, _, none⟩) hgl).trans (HPR.out hk0).2⟩
      clear HPR q0 q1
      generalize wr.heap.size = gx at *
      have CK := Lib.hid (key_any part wx)
      cases hk1 : keyB part
      · have HF := Lib.hid (HD.out.trans (if_pos hk1))
        rw [hk1] at CK
        clear hk1
        go_wp2_with fail
        refine CK.out.mono ?_
        rintro e w' ⟨rfl, rfl⟩
        go_wp2_with fail
        go_ret
        exact ⟨ret_int HF.out.symm, HX.out.1⟩
      have HD1 := Lib.hid (HD.out.trans (if_neg (by rw [hk1]; simp)))
      rw [hk1] at CK
      clear hk1 HD
      go_wp2_with fail
      refine CK.out.mono ?_
      rintro e w' ⟨rfl, rfl⟩
      have CW := Lib.hid (fun W => withinR many 1 1000 W)
      clear CK
      by_cases hk0 : k = 0
      · have HD2 := Lib.hid (HD1.out.trans (if_neg (by rw [HP0.out hk0]; simp)))
        have hd0 : decide (0 < k) = false := decide_eq_false (by omega)
        clear HD1
        cases hw : inR many 1 1000
        · have HF := Lib.hid (HD2.out.trans (if_pos hw))
          rw [hw] at CW
          clear hw hk0
          go_wp2_with fail
          go_quiet (fail)
          go_wp2_with fail
          refine (CW.out _).mono ?_
          rintro e w' ⟨rfl, rfl⟩
          go_wp2_with fail
          go_ret
          exact ⟨ret_int HF.out.symm, HX.out.1.drawN _⟩
        · have HF : Hid (E = ndErr (ns.drop (k + 1)) (prevD ns (k + 1))) := HD2.out.trans ((if_neg (by rw [hw]; simp)).trans (by rw [HN.out]))
          rw [hw] at CW
          clear hw hk0
          go_wp2_with fail
          go_quiet (fail)
          go_wp2_with fail
          refine (CW.out _).mono ?_
          rintro e w' ⟨rfl, rfl⟩
          go_wp2_with fail
          go_roundw
          case rel => exact ⟨k + 1, by omega, by go_num, HX.out.1.drawN _, HF.out⟩
          case measure => simp [intOf]; omega
      · obtain ⟨hpv, m1⟩ := HPX.out (by omega)
        have hwi : IntKind.i64.wrap ((k : Int) - 1) = (k : Int) - 1 := IntWalk.i64_in ((k : Int) - 1) (by omega)
        rw [hpv] at HD1
        generalize (ns[k - 1]'(by omega)).part = y at *
        have HY : Hid ((some y).any (leS part) = leS part y) := rfl
        have HLES : leS part y = (Op.bytesLess part.toList y.toList || (part.toList == y.toList)) := rfl
        have hd0 : 0 < k := by omega
        clear hpv HPX HP0 hk0
        cases hle : leS part y
        · have HD2 := Lib.hid (HD1.out.trans (if_neg (by rw [HY.out, hle]; simp)))
          rw [hle] at HLES
          have hle2 := HLES.symm
          clear hle HLES HD1
          cases hw : inR many 1 1000
          · have HF := Lib.hid (HD2.out.trans (if_pos hw))
            rw [hw] at CW
            clear hw
            go_wp2_with fail
            go_quiet (fail)
            go_wp2_with fail
            refine (CW.out _).mono ?_
            rintro e w' ⟨rfl, rfl⟩
            go_wp2_with fail
            go_ret
            exact ⟨ret_int HF.out.symm, HX.out.1.drawN _⟩
          · have HF : Hid (E = ndErr (ns.drop (k + 1)) (prevD ns (k + 1))) := HD2.out.trans ((if_neg (by rw [hw]; simp)).trans (by rw [HN.out]))
            rw [hw] at CW
            clear hw
            go_wp2_with fail
            go_quiet (fail)
            go_wp2_with fail
            refine (CW.out _).mono ?_
            rintro e w' ⟨rfl, rfl⟩
            go_wp2_with fail
            go_roundw
            case rel => exact ⟨k + 1, by omega, by go_num, HX.out.1.drawN _, HF.out⟩
            case measure => simp [intOf]; omega
        · have HF := Lib.hid (HD1.out.trans (if_pos (by rw [HY.out, hle])))
          rw [hle] at HLES
          have hle2 := HLES.symm
          clear hle HLES
          go_wp2_with fail
          go_quiet (fail)
          go_wp2_with fail
          go_ret
          exact ⟨ret_int HF.out.symm, HX.out.1.drawN _⟩
    · have HF : Hid (E = 0) := HS.out.2.trans (by rw [List.drop_eq_nil_of_le (by omega)]; rfl)
      go_wp2_with fail
      go_ret
      exact ⟨ret_int HF.out.symm, HS.out.1⟩

set_option maxHeartbeats 2000000 in
theorem check_line {base : Nat} (ms : List Mc) (ns : List Nd) (hl : ms.length ≤ 1000000) (hc : ∀ m ∈ ms, m.can.length ≤ 1000000) (hn : ns.length ≤ 1000000) {v1 v2 : Value} {w : World} (h1 : MsF base v1 ms w) (h2 : Reads encD v2 ns w) :
    Calls Tryz.prog 14 #[v1, v2] w fun e w' => e = .returned (.int .i64 (bothErr ms ns)) ∧ Below w.heap.size w w' := by
  have C1 := Lib.hid (checkMachines_any ms hl hc h1)
  have C2 := Lib.hid (fun (W : World) (hb : Below w.heap.size w W) => checkNeeds_any ns hn (h2.below hb))
  have HE : Hid (bothErr ms ns = if machErr ms = 0 then needErr ns else machErr ms) := rfl
  obtain ⟨A, c, rfl, _, _⟩ := h1
  obtain ⟨A2, c2, rfl, _⟩ := h2
  generalize machErr ms = E1 at *
  generalize needErr ns = E2 at *
  generalize bothErr ms ns = E at *
  by_cases h0 : E1 = 0
  · have HF : Hid (E = E2) := HE.out.trans (if_pos h0)
    subst h0
    clear HE
    go_enter Tryz.func14, Tryz.ntmps14
    go_wp2_with fail
    refine C1.out.mono ?_
    rintro e w2 ⟨rfl, b2⟩
    have HB := Lib.hid b2
    clear b2
    go_wp2_with fail
    refine (C2.out _ HB.out).mono ?_
    rintro e w3 ⟨rfl, b3⟩
    have HB3 := Lib.hid (HB.out.then_below b3 HB.out.size)
    clear b3
    go_wp2_with fail
    go_ret
    exact ⟨ret_int HF.out.symm, HB3.out⟩
  · have HF : Hid (E = E1) := HE.out.trans (if_neg h0)
    clear HE
    go_enter Tryz.func14, Tryz.ntmps14
    go_wp2_with fail
    refine C1.out.mono ?_
    rintro e w2 ⟨rfl, b2⟩
    have HB := Lib.hid b2
    clear b2
    go_wp2_with fail
    go_ret
    exact ⟨ret_int HF.out.symm, HB.out⟩
end Go.Proofs.YtmjonmoagpkdiabGreatDoor
