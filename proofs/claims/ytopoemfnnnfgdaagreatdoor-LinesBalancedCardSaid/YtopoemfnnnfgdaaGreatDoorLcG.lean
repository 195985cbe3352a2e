/-
  The faults of machines and needs: the reference's.
-/
import Derived.Test.YtopoemfnnnfgdaaGreatDoorLcC
namespace Go.Proofs.YtopoemfnnnfgdaaGreatDoor
open Go.RowKit
set_option linter.unusedSimpArgs false
set_option linter.unusedVariables false

set_option maxRecDepth 100000 in
set_option maxHeartbeats 8000000 in
theorem machinesFault_any (ms : List Mc) (hl : ms.length ≤ 1000000) (hc : ∀ m ∈ ms, m.can.length ≤ 1000000) {base : Nat} {v : Value} {w : World} (h : MsF base v ms w) :
    Calls Tryz.prog 13 #[v] w fun e w' => e = .returned (.int .i64 (machErr ms)) ∧ Below w.heap.size w w' := by
  have HH := Lib.hid h
  have HE : Hid (machErr ms = if ms.length = 0 then 8 else if 6 < ms.length then 2 else mcsErr [] ms) := rfl
  obtain ⟨A, c, rfl, hcp, _⟩ := h
  generalize machErr ms = E at *
  by_cases h0 : ms.length = 0
  · have HF : Hid (E = 8) := HE.out.trans (if_pos h0)
    rw [h0]
    clear h0 HE hcp HH
    go_enter Tryz.func13, Tryz.ntmps13
    go_wp2_with fail
    go_ret
    exact ⟨ret_int HF.out.symm, Below.refl _ _⟩
  have HE1 := Lib.hid (HE.out.trans (if_neg h0))
  have h01 : ((ms.length : Int) == 0) = false := beq_eq_false_iff_ne.mpr (by omega)
  clear HE
  by_cases h6 : 6 < ms.length
  · have HF : Hid (E = 2) := HE1.out.trans (if_pos h6)
    clear HE1
    go_enter Tryz.func13, Tryz.ntmps13
    go_wp2_with fail
    go_ret
    exact ⟨ret_int HF.out.symm, Below.refl _ _⟩
  have HE2 : Hid (E = mcsErr (ms.take 0) (ms.drop 0)) := HE1.out.trans (if_neg h6)
  clear HE1
  go_enter Tryz.func13, Tryz.ntmps13
  go_wp2_with fail
  clear h0 h01
  go_loopw [18] (fun kk wr => ∃ k : Nat, k ≤ ms.length ∧ kk = .int .i64 k ∧ Hid (Below w.heap.size w wr ∧ E = mcsErr (ms.take k) (ms.drop k))) (fun kk _ => ms.length - (intOf kk).toNat)
  case atStart => exact ⟨0, by omega, rfl, Below.refl _ _, HE2.out⟩
  case round =>
    clear HE2
    obtain ⟨k, hk, rfl, HS⟩ := hrel
    by_cases hlt : k < ms.length
    · have hcan := hc ms[k] (List.getElem_mem hlt)
      have HD : Hid (E = if mcErr (ms.take k) ms[k] = 0 then mcsErr (ms.take (k + 1)) (ms.drop (k + 1)) else mcErr (ms.take k) ms[k]) := HS.out.2.trans (mcsErr_drop hlt)
      have hV := HH.out.below HS.out.1
      have HB := Lib.hid HS.out.1
      have HT := Lib.hid (hV.take k hk)
      obtain ⟨A', c', e, _, hr⟩ := hV
      cases e
      rcases hr with rfl | ⟨g, rfl, hgl, hrow⟩
      · simp at hlt
      obtain ⟨q0, q1, q2, q3, u, q4, hu⟩ := hrow k hlt
      have hpl : (ms.take k).length ≤ 1000000 := by rw [List.length_take]; omega
      clear hrow HS
      have HMC : Hid (mcErr (ms.take k) ms[k] = if keyB ms[k].key = false then 5 else if keyIn (ms.take k) ms[k].key = true then 6 else if (inR ms[k].each 0 10000000 && (inR ms[k].fixed 0 10000000 && inR ms[k].feed 0 100)) = false then 1 else if 1000 < ms[k].can.length then 2 else paErr ms[k].can none) := rfl
      generalize mcErr (ms.take k) ms[k] = E1 at *
      generalize ms[k] = m at *
      obtain ⟨key, each, fixed, feed, can⟩ := m
      dsimp only at q0 q1 q2 q3 hu hcan HMC
      have i1 : (0 : Int) ≤ (k : Int) := by omega
      have i2 : (k : Int) < (ms.length : Int) := by omega
      have hkc : k ≤ c := by omega
      have HX : Hid (Below w.heap.size w (wr.alloc (.cells #[.string key, .int .i64 each, .int .i64 fixed, .int .i64 feed, u] 57)) ∧ MsF base (.slice (some ⟨g, 0, none⟩) k c) (ms.take k) (wr.alloc (.cells #[.string key, .int .i64 each, .int .i64 fixed, .int .i64 feed, u] 57)) ∧ ReadsF base encS u can (wr.alloc (.cells #[.string key, .int .i64 each, .int .i64 fixed, .int .i64 feed, u] 57)) ∧ (wr.alloc (.cells #[.string key, .int .i64 each, .int .i64 fixed, .int .i64 feed, u] 57)).heap[wr.heap.size]? = some (.cells #[.string key, .int .i64 each, .int .i64 fixed, .int .i64 feed, u] 57 (0, 0))) :=
        ⟨HB.out.alloc HB.out.size _, HT.out.below ((Below.refl _ _).alloc (Nat.le_refl _) _), hu.below ((Below.refl _ _).alloc (Nat.le_refl _) _), blk_new wr _ rfl⟩
      obtain ⟨A2, c2, rfl, _, _⟩ := hu
      go_upto_region 8 with (fail)
      generalize wr.alloc (.cells #[.string key, .int .i64 each, .int .i64 fixed, .int .i64 feed, .slice A2 can.length c2] 57) = wx at *
      obtain ⟨gx, hgx⟩ : ∃ gx, wr.heap.size = gx := ⟨_, rfl⟩
      rw [hgx] at HX ⊢
      clear hgx
      obtain ⟨p0, p1, p2, p3, p4⟩ := blk5 HX.out.2.2.2
      have pl := lt_of_blk HX.out.2.2.2
      clear q0 q1 q2 q3 q4
      have CK := Lib.hid (refKey_any key wx)
      have CC := Lib.hid (containsM_any (enters_of Tryz.func34 (by kernel_rfl) rfl) gx key (fun key' each fixed feed A n c W h => sameQ_any key' each fixed feed A n c gx key W h) (ms.take k) hpl HX.out.2.1 ⟨pl, p0⟩)
      have hd : ∀ F : Int, E1 = F → F ≠ 0 → E = F := fun F h h2 => by
        have := HD.out
        rw [if_neg (by rw [h]; exact h2), h] at this
        exact this
      have HNZ := Lib.hid hd
      clear hd
      cases hk1 : keyB key
      · have HF : Hid (E = 5) := HNZ.out 5 (HMC.out.trans (if_pos hk1)) (by decide)
        rw [hk1] at CK
        clear hk1 CC
        go_wp2_with fail
        refine CK.out.mono ?_
        rintro e w2 ⟨rfl, rfl⟩
        go_wp2_with fail
        go_ret
        exact ⟨ret_int HF.out.symm, HX.out.1⟩
      have HM1 := Lib.hid (HMC.out.trans (if_neg (by rw [hk1]; simp)))
      rw [hk1] at CK
      clear hk1 HMC
      go_wp2_with fail
      refine CK.out.mono ?_
      rintro e w2 ⟨rfl, rfl⟩
      clear CK
      cases ht : keyIn (ms.take k) key
      case true =>
        have HF : Hid (E = 6) := HNZ.out 6 (HM1.out.trans (if_pos ht)) (by decide)
        rw [ht] at CC
        clear ht
        go_wp2_with fail
        refine CC.out.mono ?_
        rintro e w3 ⟨rfl, b3⟩
        have HB3 := Lib.hid (HX.out.1.then_below b3 HX.out.1.size)
        clear b3
        go_wp2_with fail
        go_ret
        exact ⟨ret_int HF.out.symm, HB3.out⟩
      case false =>
        have HM2 := Lib.hid (HM1.out.trans (if_neg (by rw [ht]; simp)))
        rw [ht] at CC
        clear ht HM1 p0 p1 p2 p3 p4
        go_wp2_with fail
        refine CC.out.mono ?_
        rintro e w3 ⟨rfl, b3⟩
        have H3 : Hid (Below w.heap.size w w3 ∧ ReadsF base encS (.slice A2 can.length c2) can w3 ∧ w3.heap[gx]? = some (.cells #[.string key, .int .i64 each, .int .i64 fixed, .int .i64 feed, .slice A2 can.length c2] 57 (0, 0))) := ⟨HX.out.1.then_below b3 HX.out.1.size, HX.out.2.2.1.below b3, blk_below b3 HX.out.2.2.2⟩
        clear b3 pl CC HX HT HB
        obtain ⟨p0, p1, p2, p3, p4⟩ := blk5 H3.out.2.2
        have pl := lt_of_blk H3.out.2.2
        have C1 := Lib.hid (refinR each 0 10000000 w3)
        have C2 := Lib.hid (refinR fixed 0 10000000 w3)
        have C3 := Lib.hid (refinR feed 0 100 w3)
        generalize inR each 0 10000000 = b1 at *
        generalize inR fixed 0 10000000 = b2 at *
        generalize inR feed 0 100 = b3 at *
        cases b1
        · have HF : Hid (E = 1) := HNZ.out 1 (HM2.out.trans (if_pos rfl)) (by decide)
          go_wp2_with fail
          refine C1.out.mono ?_
          rintro e w4 ⟨rfl, rfl⟩
          go_wp2_with fail
          go_ret
          exact ⟨ret_int HF.out.symm, H3.out.1⟩
        cases b2
        · have HF : Hid (E = 1) := HNZ.out 1 (HM2.out.trans (if_pos rfl)) (by decide)
          go_wp2_with fail
          refine C1.out.mono ?_
          rintro e w4 ⟨rfl, rfl⟩
          go_wp2_with fail
          refine C2.out.mono ?_
          rintro e w4 ⟨rfl, rfl⟩
          go_wp2_with fail
          go_ret
          exact ⟨ret_int HF.out.symm, H3.out.1⟩
        cases b3
        · have HF : Hid (E = 1) := HNZ.out 1 (HM2.out.trans (if_pos rfl)) (by decide)
          go_wp2_with fail
          refine C1.out.mono ?_
          rintro e w4 ⟨rfl, rfl⟩
          go_wp2_with fail
          refine C2.out.mono ?_
          rintro e w4 ⟨rfl, rfl⟩
          go_wp2_with fail
          refine C3.out.mono ?_
          rintro e w4 ⟨rfl, rfl⟩
          go_wp2_with fail
          go_ret
          exact ⟨ret_int HF.out.symm, H3.out.1⟩
        have HM3 := Lib.hid (HM2.out.trans (if_neg (by simp)))
        clear HM2
        go_wp2_with fail
        refine C1.out.mono ?_
        rintro e w4 ⟨rfl, rfl⟩
        go_wp2_with fail
        refine C2.out.mono ?_
        rintro e w4 ⟨rfl, rfl⟩
        go_wp2_with fail
        refine C3.out.mono ?_
        rintro e w4 ⟨rfl, rfl⟩
        clear C1 C2 C3
        by_cases hlc : 1000 < can.length
        · have HF : Hid (E = 2) := HNZ.out 2 (HM3.out.trans (if_pos hlc)) (by decide)
          go_wp2_with fail
          go_ret
          exact ⟨ret_int HF.out.symm, H3.out.1⟩
        have HM4 : Hid (E1 = paErr can none) := HM3.out.trans (if_neg hlc)
        clear HM3
        obtain ⟨wq, hwq⟩ : ∃ wq : World, wq = w3 := ⟨_, rfl⟩
        rw [← hwq] at H3 p0 p1 p2 p3 p4 pl ⊢
        clear hwq
        go_wp2_with fail
        clear p0 p1 p2 p3 p4 pl
        go_loopw [5, 59] (fun lv kk wr => ∃ i : Nat, i ≤ can.length ∧ lv = .string (lastL can i) ∧ kk = .int .i64 i ∧ wq = wr ∧ Hid (paErr can none = paErr (can.drop i) (prevL can i))) (fun _ kk _ => can.length - (intOf kk).toNat)
        case atStart => exact ⟨0, by omega, rfl, rfl, rfl, rfl⟩
        case round =>
          obtain ⟨i, hi, rfl, rfl, rfl, HI⟩ := hrel
          by_cases hli : i < can.length
          · obtain ⟨A3, c3, e3, _, hr⟩ := H3.out.2.1
            cases e3
            rcases hr with hr | ⟨g', rfl, _, hrow⟩
            · subst hr; simp at hli
            have d0 := row_strg hrow hli
            have hgl' := hrow.1
            have HN := Lib.hid (prevL_succ hli)
            have HLL : Hid (lastL can (i + 1) = can[i]) := lastL_succ hli
            have HD2 : Hid (paErr can none = if keyB can[i] = false then 5 else if (prevL can i).any (leS can[i]) = true then 7 else paErr (can.drop (i + 1)) (some can[i])) := HI.out.trans (by rw [drop_at can hli, paErr])
            have HPL := Lib.hid (fun (x : ByteArray) (h : keyB x = true) => last_prev (l := can) (i := i) (by omega) h)
            generalize hx : can[i] = x at *
            have j1 : (0 : Int) ≤ (i : Int) := by omega
            have j2 : (i : Int) < (can.length : Int) := by omega
            have CK := Lib.hid (fun W => refKey_any x W)
            clear hrow HI hx
            generalize lastL can i = y at *
            cases hk1 : keyB x
            · have HF : Hid (E = 5) := HNZ.out 5 (HM4.out.trans (HD2.out.trans (if_pos hk1))) (by decide)
              rw [hk1] at CK
              clear hk1
              go_wp2_with fail
              refine (CK.out _).mono ?_
              rintro e w' ⟨rfl, rfl⟩
              go_wp2_with fail
              go_ret
              exact ⟨ret_int HF.out.symm, H3.out.1⟩
            have HD3 := Lib.hid (HD2.out.trans (if_neg (by rw [hk1]; simp)))
            have HPX := Lib.hid (HPL.out x hk1)
            rw [hk1] at CK
            clear hk1 HPL
            have HLES : leS x y = (Op.bytesLess x.toList y.toList || (x.toList == y.toList)) := rfl
            cases hle : leS x y
            · have HF : Hid (paErr can none = paErr (can.drop (i + 1)) (prevL can (i + 1))) := HD3.out.trans (by rw [HPX.out, if_neg (by rw [hle]; simp), HN.out])
              rw [hle] at HLES
              have hle2 := HLES.symm
              clear hle HLES
              go_wp2_with fail
              refine (CK.out _).mono ?_
              rintro e w' ⟨rfl, rfl⟩
              go_wp2_with fail
              go_roundw
              case rel => exact ⟨i + 1, by omega, by rw [HLL.out], by go_num, by trivial, HF⟩
              case measure => simp [intOf]; omega
            · have HF : Hid (E = 7) := HNZ.out 7 (HM4.out.trans (HD3.out.trans (by rw [HPX.out, if_pos hle]))) (by decide)
              rw [hle] at HLES
              have hle2 := HLES.symm
              clear hle HLES
              go_wp2_with fail
              refine (CK.out _).mono ?_
              rintro e w' ⟨rfl, rfl⟩
              go_wp2_with fail
              go_ret
              exact ⟨ret_int HF.out.symm, H3.out.1⟩
          · have HP : paErr can none = 0 := HI.out.trans (by rw [List.drop_eq_nil_of_le (by omega)]; rfl)
            have HF : Hid (E = mcsErr (ms.take (k + 1)) (ms.drop (k + 1))) := HD.out.trans (if_pos (HM4.out.trans HP))
            clear HP
            go_wp2_with fail
            go_roundw
            case rel => exact ⟨k + 1, by omega, by go_num, H3.out.1, HF.out⟩
            case measure => simp [intOf]; omega
    · have HF : Hid (E = 0) := HS.out.2.trans (by rw [List.drop_eq_nil_of_le (by omega)]; rfl)
      go_wp2_with fail
      go_ret
      exact ⟨ret_int HF.out.symm, HS.out.1⟩

def lastD (l : List Nd) : Nat → ByteArray
  | 0 => ⟨#[]⟩
  | k + 1 => (ndA l k).part
theorem lastD_succ {l : List Nd} {k : Nat} (h : k < l.length) : lastD l (k + 1) = l[k].part := by rw [lastD, ndA_at h]
theorem lastD_prev {l : List Nd} {i : Nat} (hi : i ≤ l.length) {x : ByteArray} (h : keyB x = true) : (prevD l i).any (leS x) = leS x (lastD l i) := by
  cases i with
  | zero => exact (leS_nil h).symm
  | succ k => rw [prevD_succ (by omega), lastD_succ (by omega)]; rfl

set_option maxRecDepth 100000 in
set_option maxHeartbeats 8000000 in
theorem needsFaultIn_any (ns : List Nd) (hl : ns.length ≤ 1000000) {v : Value} {w : World} (h : Reads encD v ns w) :
    Calls Tryz.prog 36 #[v, .int .i64 1, .int .i64 1000] w fun e w' => e = .returned (.int .i64 (needErr ns)) ∧ Below w.heap.size w w' := by
  have HH := Lib.hid h
  have HE : Hid (needErr ns = if 1000 < ns.length then 2 else ndErr ns none) := rfl
  obtain ⟨A, c, rfl, _⟩ := h
  generalize needErr ns = E at *
  by_cases h6 : 1000 < ns.length
  · have HF : Hid (E = 2) := HE.out.trans (if_pos h6)
    clear HE
    go_enter Tryz.func36, Tryz.ntmps36
    go_wp2_with fail
    go_ret
    exact ⟨ret_int HF.out.symm, Below.refl _ _⟩
  have HE2 : Hid (E = ndErr (ns.drop 0) (prevD ns 0)) := HE.out.trans (if_neg h6)
  clear HE
  go_enter Tryz.func36, Tryz.ntmps36
  go_wp2_with fail
  go_loopw [7, 15] (fun lv kk wr => ∃ k : Nat, k ≤ ns.length ∧ lv = .string (lastD ns k) ∧ kk = .int .i64 k ∧ Hid (Below w.heap.size w wr ∧ E = ndErr (ns.drop k) (prevD ns k))) (fun _ kk _ => ns.length - (intOf kk).toNat)
  case atStart => exact ⟨0, by omega, rfl, rfl, Below.refl _ _, HE2.out⟩
  case round =>
    clear HE2
    obtain ⟨k, hk, rfl, rfl, HS⟩ := hrel
    by_cases hlt : k < ns.length
    · have HD : Hid (E = if keyB ns[k].part = false then 5 else if (prevD ns k).any (leS ns[k].part) = true then 7 else if inR ns[k].many 1 1000 = false then 1 else ndErr (ns.drop (k + 1)) (some ns[k].part)) := HS.out.2.trans (by rw [drop_at ns hlt, ndErr])
      have HB := Lib.hid HS.out.1
      obtain ⟨A', c', e, hr⟩ := HH.out.below HS.out.1
      cases e
      rcases hr with rfl | ⟨g, rfl, hrow⟩
      · simp at hlt
      obtain ⟨q0, q1⟩ := row_d hrow hlt
      have hgl := hrow.1
      have HN := Lib.hid (prevD_succ hlt)
      have HLL := Lib.hid (lastD_succ hlt)
      have HPL := Lib.hid (fun (x : ByteArray) (h : keyB x = true) => lastD_prev (l := ns) (i := k) (by omega) h)
      clear hrow HS
      generalize ns[k] = n at *
      obtain ⟨part, many⟩ := n
      dsimp only at q0 q1 HD HN HLL
      generalize lastD ns k = y at *
      have i1 : (0 : Int) ≤ (k : Int) := by omega
      have i2 : (k : Int) < (ns.length : Int) := by omega
      have HX : Hid (Below w.heap.size w (wr.alloc (.cells #[.string part, .int .i64 many] 62)) ∧ (wr.alloc (.cells #[.string part, .int .i64 many] 62)).heap[wr.heap.size]? = some (.cells #[.string part, .int .i64 many] 62 (0, 0))) :=
        ⟨HB.out.alloc HB.out.size _, blk_new wr _ rfl⟩
      go_upto_region 7 with (fail)
      generalize wr.alloc (.cells #[.string part, .int .i64 many] 62) = wx at *
      obtain ⟨p0, p1⟩ := blk2c HX.out.2
      have pl := lt_of_blk HX.out.2
      clear q0 q1
      generalize wr.heap.size = gx at *
      have CK := Lib.hid (refKey_any part wx)
      cases hk1 : keyB part
      · have HF := Lib.hid (HD.out.trans (if_pos hk1))
        rw [hk1] at CK
        clear hk1
        go_wp2_with fail
        refine CK.out.mono ?_
        rintro e w' ⟨rfl, rfl⟩
        go_wp2_with fail
        go_ret
        exact ⟨ret_int HF.out.symm, HX.out.1⟩
      have HD1 := Lib.hid (HD.out.trans (if_neg (by rw [hk1]; simp)))
      have HPX := Lib.hid (HPL.out part hk1)
      rw [hk1] at CK
      clear hk1 HD HPL
      go_wp2_with fail
      refine CK.out.mono ?_
      rintro e w' ⟨rfl, rfl⟩
      have CW := Lib.hid (fun W => refinR many 1 1000 W)
      clear CK
      have HLES : leS part y = (Op.bytesLess part.toList y.toList || (part.toList == y.toList)) := rfl
      cases hle : leS part y
      · have HD2 := Lib.hid (HD1.out.trans (if_neg (by rw [HPX.out, hle]; simp)))
        rw [hle] at HLES
        have hle2 := HLES.symm
        clear hle HLES HD1
        cases hw : inR many 1 1000
        · have HF := Lib.hid (HD2.out.trans (if_pos hw))
          rw [hw] at CW
          clear hw
          go_wp2_with fail
          refine (CW.out _).mono ?_
          rintro e w' ⟨rfl, rfl⟩
          go_wp2_with fail
          go_ret
          exact ⟨ret_int HF.out.symm, HX.out.1⟩
        · have HF : Hid (E = ndErr (ns.drop (k + 1)) (prevD ns (k + 1))) := HD2.out.trans ((if_neg (by rw [hw]; simp)).trans (by rw [HN.out]))
          rw [hw] at CW
          clear hw
          go_wp2_with fail
          refine (CW.out _).mono ?_
          rintro e w' ⟨rfl, rfl⟩
          go_wp2_with fail
          go_roundw
          case rel => exact ⟨k + 1, by omega, by rw [HLL.out], by go_num, HX.out.1, HF.out⟩
          case measure => simp [intOf]; omega
      · have HF := Lib.hid (HD1.out.trans (if_pos (by rw [HPX.out, hle])))
        rw [hle] at HLES
        have hle2 := HLES.symm
        clear hle HLES
        go_wp2_with fail
        go_ret
        exact ⟨ret_int HF.out.symm, HX.out.1⟩
    · have HF : Hid (E = 0) := HS.out.2.trans (by rw [List.drop_eq_nil_of_le (by omega)]; rfl)
      go_wp2_with fail
      go_ret
      exact ⟨ret_int HF.out.symm, HS.out.1⟩
theorem needsFault_any (ns : List Nd) (hl : ns.length ≤ 1000000) {v : Value} {w : World} (h : Reads encD v ns w) :
    Calls Tryz.prog 14 #[v] w fun e w' => e = .returned (.int .i64 (needErr ns)) ∧ Below w.heap.size w w' := by
  have C1 := Lib.hid (needsFaultIn_any ns hl h)
  obtain ⟨A, c, rfl, _⟩ := h
  generalize needErr ns = E at *
  go_enter Tryz.func14, Tryz.ntmps14
  go_wp2_with fail
  refine C1.out.mono ?_
  rintro e w2 ⟨rfl, b2⟩
  have HB := Lib.hid b2
  clear b2
  go_wp2_with fail
  go_ret
  exact ⟨rfl, HB.out⟩
end Go.Proofs.YtopoemfnnnfgdaaGreatDoor
