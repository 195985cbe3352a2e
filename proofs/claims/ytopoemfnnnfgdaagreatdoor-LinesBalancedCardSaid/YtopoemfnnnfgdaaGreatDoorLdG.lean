/-
  The plan by the rule of thumb: the program's answer.
-/
import Derived.Test.YtopoemfnnnfgdaaGreatDoorLdF
namespace Go.Proofs.YtopoemfnnnfgdaaGreatDoor
open Go.RowKit
set_option linter.unusedSimpArgs false
set_option linter.unusedVariables false

theorem idN_snoc (t : Nat) : idN (t + 1) = idN t ++ [(t : Int)] := by
  unfold idN
  rw [List.range_succ, toZ_snoc]
set_option maxRecDepth 100000 in
set_option maxHeartbeats 8000000 in
theorem greatestFirst_any (ns : List Nd) (hn : NsOk ns) (hnl : ns.length ≤ 13) {v2 : Value} {w : World} (h2 : Reads encD v2 ns w) :
    Calls Tryz.prog 54 #[v2] w fun e w' => ∃ A c, e = .returned (.slice A ns.length c) ∧ w'.ownsRow w.heap.size 3 1 (.slice A ns.length c) ns.length ((ordN ns).map (Value.int .i64)) ∧ Below w.heap.size w w' := by
  obtain ⟨A2, c2, rfl, h2'⟩ := h2
  have HX : Hid (NAt w.heap.size ns (w.alloc (.cells #[.slice A2 ns.length c2] 28)) ∧ Below w.heap.size w (w.alloc (.cells #[.slice A2 ns.length c2] 28)) ∧ (w.alloc (.cells #[.slice A2 ns.length c2] 28)).heap[w.heap.size]? = some (.cells #[.slice A2 ns.length c2] 28 (0, 0))) :=
    ⟨⟨A2, c2, blk_new w _ rfl, (show Reads encD (.slice A2 ns.length c2) ns w from ⟨A2, c2, rfl, h2'⟩).below ((Below.refl _ _).alloc (Nat.le_refl _) _)⟩, (Below.refl _ _).alloc (Nat.le_refl _) _, blk_new w _ rfl⟩
  have HN := Lib.hid hn
  obtain ⟨i0, hi0, hz0, hzz1, hz20⟩ := info_parts int_infoN
  have HI := Lib.hid (And.intro hi0 (And.intro hz0 (And.intro hzz1 hz20)))
  clear h2' hn hi0 hz0 hzz1 hz20
  go_enter Tryz.func54, Tryz.ntmps54
  go_upto_region 2 with (fail)
  generalize w.alloc (.cells #[.slice A2 ns.length c2] 28) = wx at *
  have c0 := cell_of_blk HX.out.2.2 0
  simp at c0
  have l0 := lt_of_blk HX.out.2.2
  have hzw := HX.out.2.1.size
  go_wp2_with fail
  clear c0
  go_loopw [3, 7] (fun v3 kk wr => ∃ t : Nat, t ≤ ns.length ∧ kk = .int .i64 t ∧ Hid (Below wx.heap.size wx wr ∧ wr.ownsRow wx.heap.size 3 1 v3 t ((idN t).map (Value.int .i64)))) (fun _ kk _ => ns.length - (intOf kk).toNat)
  case atStart => exact ⟨0, by omega, rfl, Below.refl _ _, World.ownsRow_nil _ _ _ _⟩
  case round =>
    obtain ⟨t, ht, rfl, HS⟩ := hrel
    obtain ⟨A3, c3, rfl, _⟩ := own_form HS.out.2
    have hsz := HS.out.1.size
    by_cases htl : t < ns.length
    · have i1 : (t : Int) < (ns.length : Int) := by omega
      go_wp2_with (at_builtin; refine hold ?_)
      refine loose ?_
      refine wpList_append_own _ rfl _ _ 22 rfl wx.heap.size 3 i0 _ 1 8 Tryz.underlying22 HI.out.1 HI.out.2.1 HI.out.2.2.1 HI.out.2.2.2 rfl (by omega) _ t ((idN t).map (Value.int .i64)) rfl (HS.out.2.alloc _) ⟨wr.heap.size, 0, none⟩ 1 1 [.int .i64 t] rfl rfl (cell_one_new _ _ _) (by intro u hu; simp at hu; subst hu; rfl) (by unfold maxLen; omega) (by omega) (by simp; omega) ?_
      intro v' w5 hown' hg' _
      have H5 : Hid (Below wx.heap.size wx w5 ∧ w5.ownsRow wx.heap.size 3 1 v' (t + 1) ((idN (t + 1)).map (Value.int .i64))) := by
        refine ⟨(HS.out.1.alloc hsz _).grown hg' (by simp; omega) (own_row HS.out.2), ?_⟩
        rw [idN_snoc, List.map_append]
        exact hown'
      clear hown' hg' HS
      go_wp2_with fail
      go_roundw
      case rel => exact ⟨t + 1, by omega, by go_num, H5⟩
      case measure => simp [intOf] <;> omega
    · obtain rfl : t = ns.length := by omega
      have i1 : ¬ (ns.length : Int) < (ns.length : Int) := by omega
      have CS0 := sortStable_any (enters_of Tryz.func69 (by kernel_rfl) rfl) w.heap.size (cfN ns) ns.length wx.heap.size (idN ns.length) (by rw [idN_len]; omega) (fun x hx => by
        obtain ⟨j, hj, rfl⟩ := idN_mem.mp hx
        omega) hsz (fun a b W ha1 ha2 hb1 hb2 hW => greater_any ns HN.out w.heap.size a b ha1 ha2 hb1 hb2 W (HX.out.1.below (HS.out.1.trans hW))) (by rw [idN_len]; exact HS.out.2)
      rw [idN_len] at CS0
      have HCS := Lib.hid CS0
      have HBW := Lib.hid (HX.out.2.1.trans (HS.out.1.mono hzw))
      have HOE : Hid (sortS (cfN ns) (idN ns.length) = ordN ns) := rfl
      rw [HOE.out] at HCS
      clear CS0 HX HS HOE
      go_wp2_with fail
      refine HCS.out.mono ?_
      rintro e w6 ⟨rfl, b6, o6⟩
      have H6 : Hid (w6.ownsRow w.heap.size 3 1 (.slice A3 ns.length c3) ns.length ((ordN ns).map (Value.int .i64)) ∧ Below w.heap.size w w6) := ⟨own_mono o6 hzw, HBW.out.trans (b6.mono hzw)⟩
      clear b6 o6 HCS
      go_wp2_with fail
      go_ret
      exact ⟨_, _, rfl, H6.out.1, H6.out.2⟩

set_option maxRecDepth 100000 in
set_option maxHeartbeats 16000000 in
theorem first_any {base : Nat} (ms : List Mc) (ns : List Nd) (hm : MsOk ms) (hn : NsOk ns) (hnl : ns.length ≤ 13) {v1 v2 : Value} {w : World} (h1 : MsF base v1 ms w) (h2 : Reads encD v2 ns w) :
    Calls Tryz.prog 28 #[v1, v2] w fun e w' => ∃ v, e = .returned (.tuple #[v, .bool (fpF ms ns)]) ∧ Reads encN v (fpP ms ns) w' ∧ Below w.heap.size w w' := by
  have HR := Lib.hid (And.intro h1 h2)
  have HM := Lib.hid hm
  have HN := Lib.hid hn
  have hmf := hm.few
  have hms := hm.some
  have hmk := run_makeI ns.length (by omega)
  have CL := Lib.hid (fun (W : World) (hb : Below w.heap.size w W) => loads_any ms ns [] hm hn (fun k hk => by simp at hk) (by simp) (h1.below hb) (h2.below hb) (nil_readsN W))
  have CG := Lib.hid (fun (W : World) (hb : Below w.heap.size w W) => greatestFirst_any ns hn hnl (h2.below hb))
  obtain ⟨A1, c1, rfl, hc1, _⟩ := h1
  obtain ⟨A2, c2, rfl, _⟩ := h2
  clear hm hn
  have H0 : Hid (NS w w.heap.size (nz (List.replicate ns.length (-1))) (w.alloc (.cells (Array.replicate ns.length (.int .i64 0)) 3))) := by
    refine ⟨(Below.refl _ _).alloc (Nat.le_refl _) _, Nat.le_refl _, ?_⟩
    rw [nz_start, ← zeros]
    exact blk_new w _ rfl
  go_enter Tryz.func28, Tryz.ntmps28
  go_upto_region 2 with (fail)
  have hz0 : (w.alloc (.cells (Array.replicate ns.length (.int .i64 0)) 3)).heap.size = w.heap.size + 1 := by simp
  generalize w.alloc (.cells (Array.replicate ns.length (.int .i64 0)) 3) = w0 at *
  have CL0 := Lib.hid (CL.out w0 H0.out.bel)
  rw [ldL_neg ms ns ns.length] at CL0
  clear hmk CL
  go_wp2_with fail
  refine CL0.out.mono ?_
  rintro e w2 ⟨gb, rfl, hLS⟩
  have hgb0 := hLS.new
  have hgb1 := lt_of_blk hLS.row
  have H2 : Hid (NS w w.heap.size (nz (List.replicate ns.length (-1))) w2 ∧ LS w gb (ldL ms ns (List.replicate ns.length (-1))) w2) := ⟨H0.out.then_ hLS.bel, H0.out.bel.then_below hLS.bel H0.out.bel.size, by omega, hLS.row⟩
  have hz2 := hLS.bel.size
  have CG2 := Lib.hid (CG.out w2 H2.out.1.bel)
  clear hLS CL0 CG H0
  go_wp2_with fail
  refine CG2.out.mono ?_
  rintro e w3 ⟨A3, c3, rfl, o3, b3⟩
  have H3 : Hid (NS w w.heap.size (nz (List.replicate ns.length (-1))) w3 ∧ LS w gb (ldL ms ns (List.replicate ns.length (-1))) w3 ∧ w3.ownsRow w2.heap.size 3 1 (.slice A3 ns.length c3) ns.length ((ordN ns).map (Value.int .i64))) := ⟨H2.out.1.then_ b3, H2.out.2.then_ b3, o3⟩
  clear o3 b3 H2 CG2
  obtain ⟨gp, hgp⟩ : ∃ gp, w.heap.size = gp := ⟨_, rfl⟩
  have HGP := Lib.hid hgp
  rw [hgp] at H3 hz0 ⊢
  clear hgp
  obtain ⟨z2, hz2'⟩ : ∃ z, w2.heap.size = z := ⟨_, rfl⟩
  rw [hz2'] at H3 hgb1
  clear hz2 hz2'
  go_wp2_with fail
  go_loopw [21] (fun kk wr => ∃ (t : Nat) (P : List Int), t ≤ ns.length ∧ kk = .int .i64 t ∧ P.length = ns.length ∧ Hid (FpI ms ns t P ∧ NS w gp (nz P) wr ∧ LS w gb (ldL ms ns P) wr ∧ wr.ownsRow z2 3 1 (.slice A3 ns.length c3) ns.length ((ordN ns).map (Value.int .i64)))) (fun kk _ => ns.length - (intOf kk).toNat)
  case atStart => exact ⟨0, List.replicate ns.length (-1), by omega, rfl, by simp, fpI_start ms ns, H3.out.1, H3.out.2.1, H3.out.2.2⟩
  case round =>
    clear H3
    obtain ⟨t, P, ht, rfl, hPl, HS⟩ := hrel
    by_cases htl : t < ns.length
    · have hto : t < (ordN ns).length := by rw [ordN_len]; exact htl
      obtain ⟨j, hj, hoj, hPj, hv⟩ := HS.out.1.at_ hto
      have HOJ := Lib.hid hoj
      have HV := Lib.hid hv
      have HFI := Lib.hid HS.out.1
      have HMem : Hid (NS w gp (nz P) wr ∧ LS w gb (ldL ms ns P) wr ∧ wr.ownsRow z2 3 1 (.slice A3 ns.length c3) ns.length ((ordN ns).map (Value.int .i64))) := HS.out.2
      have cj := own_form HS.out.2.2.2
      obtain ⟨A3', c3', e, hA⟩ := cj
      cases e
      obtain ⟨g3, rfl, hg3, hg3b⟩ := hA (by omega)
      have cj := own_cell HMem.out.2.2 hto (ordN_len ns)
      rw [hoj] at cj
      obtain ⟨g2, e2, hg2, n0, n1⟩ := readsD_at (HR.out.2.below HMem.out.1.bel) hj
      cases e2
      have hma := HN.out.many _ (List.getElem_mem hj)
      have hjP : j < P.length := by omega
      have hPe : P[j] = -1 := by rw [← getD_at hjP]; exact hPj
      have CQ0 := quickest_any ms (ldL ms ns P) ns[j].part ns[j].many HM.out (ldL_len _ _ _) (ld_bounds HM.out HN.out (by omega)) hma (HR.out.1.below HMem.out.1.bel) HMem.out.2.1
      have HQE : Hid (qk ms (ldL ms ns P) ns[j].part ns[j].many ms.length = fpS ms ns j P) := by
        show _ = _
        unfold fpS
        rw [Int.toNat_natCast, ndA_at hj]
      rw [HQE.out] at CQ0
      have hql : (fpS ms ns j P).1 < ms.length := qk_lt (by omega) _ _ _ _ (Nat.le_refl _)
      have HSTEP := Lib.hid (fun h => HFI.out.step hto hj hoj (fpS ms ns j P).1 h)
      have HLD := Lib.hid (ldL_set (ms := ms) (ns := ns) hjP hj hPe hql)
      have CQ := Lib.hid CQ0
      have HND := Lib.hid (And.intro n0 n1)
      clear CQ0 HQE HS hA n0 n1 hv hoj hPj hPe
      generalize fpS ms ns j P = qc at *
      obtain ⟨q, c⟩ := qc
      dsimp only at hql HSTEP HLD CQ HV
      obtain ⟨n0, n1⟩ := HND.out
      have hcyb := cyOf_bound (HM.out.ok _ (List.getElem_mem hql)) q P HN.out
      have hpab : ((P.count (q : Int) : Nat) : Int) ≤ 1000 := by
        have : P.count (q : Int) ≤ P.length := List.count_le_length
        omega
      have hpab0 : (0 : Int) ≤ ((P.count (q : Int) : Nat) : Int) := by omega
      have hea := (HM.out.ok _ (List.getElem_mem hql)).each
      have i1 : (t : Int) < (ns.length : Int) := by omega
      have i2 : (j : Int) < (ns.length : Int) := by omega
      have i3 : (q : Int) < (ms.length : Int) := by omega
      generalize hnd : ns[j] = nd at *
      obtain ⟨part, many⟩ := nd
      have HNE := Lib.hid hnd
      clear hnd
      dsimp only at n0 n1 CQ HLD hma
      go_wp2_with fail
      refine CQ.out.mono ?_
      rintro e w5 ⟨rfl, b5⟩
      have H5 : Hid (NS w gp (nz P) w5 ∧ LS w gb (ldL ms ns P) w5 ∧ w5.ownsRow z2 3 1 (.slice (some ⟨g3, 0, none⟩) ns.length c3) ns.length ((ordN ns).map (Value.int .i64))) := ⟨HMem.out.1.then_ b5, HMem.out.2.1.then_ b5, own_below HMem.out.2.2 b5⟩
      clear HMem b5 CQ n0 n1 HND
      by_cases hq : c < MX
      · have hd : decide (c < MX) = true := decide_eq_true hq
        rw [hd]
        have HVT : Hid (fpV ms ns = fpGo ms ns ((ordN ns).drop (t + 1)) (P.set j (q : Int))) := HV.out.trans (if_pos hq)
        have HFN := Lib.hid (HSTEP.out HVT.out)
        have lp := lt_of_blk H5.out.1.row
        have fp := frozen_of_blk H5.out.1.row j
        have cp := H5.out.1.at_ (k := j) (by rw [nz_len]; omega)
        have H6 : Hid (NS w gp (nz (P.set j (q : Int))) (w5.setCell ⟨gp, j, none⟩ (.int .i64 q)) ∧ LS w gb (ldL ms ns P) (w5.setCell ⟨gp, j, none⟩ (.int .i64 q)) ∧ (w5.setCell ⟨gp, j, none⟩ (.int .i64 q)).ownsRow z2 3 1 (.slice (some ⟨g3, 0, none⟩) ns.length c3) ns.length ((ordN ns).map (Value.int .i64))) :=
          ⟨by rw [nz_set]; exact H5.out.1.set j q, ⟨H5.out.2.1.bel.setCell H5.out.1.new _, H5.out.2.1.new, blk_far H5.out.2.1.row (by show gb ≠ gp; omega) _⟩, own_ne H5.out.2.2 (by show gp ≠ g3; omega) _⟩
        clear HV HSTEP HVT H5 hd
        go_upto_region 10 with (fail)
        generalize w5.setCell ⟨gp, j, none⟩ (.int .i64 q) = w6 at *
        clear lp fp cp
        obtain ⟨g1, e1, hg1, q0, q1, q2, q3, u, q4, A4, c4, rfl, _⟩ := (HR.out.1.below H6.out.1.bel).at_ hql
        cases e1
        obtain ⟨g2', e2, hg2', n0, n1⟩ := readsD_at (HR.out.2.below H6.out.1.bel) hj
        cases e2
        have hLq : q < (ldL ms ns P).length := by rw [ldL_len]; exact hql
        obtain ⟨l0, l1⟩ := H6.out.2.1.at_ hLq
        rw [ldL_at _ _ _ hql] at l0 l1
        dsimp only at l0 l1
        have hgb := lt_of_blk H6.out.2.1.row
        generalize hcy : cyOf ms[q] q P ns = cy at *
        generalize hpa : ((P.count (q : Int) : Nat) : Int) = pa at *
        generalize ms[q] = m at *
        obtain ⟨key, each, fixed, feed, can⟩ := m
        dsimp only at q0 q1 q2 q3 q4 HLD hea
        rw [HNE.out] at n0 n1
        dsimp only at n0 n1
        have CW := Lib.hid (fun W => with_any cy pa key each fixed feed (.slice A4 can.length c4) part many W (by omega) (by omega) hea (by omega))
        have i4 : (0 : Int) ≤ (q : Int) := by omega
        have i5 : (0 : Int) ≤ (j : Int) := by omega
        generalize hX : cy + each * many = X at *
        generalize hY : pa + 1 = Y at *
        clear hX hY hcy hpa hcyb hpab hpab0 hea
        refine Rg.rgL (fun a b => Below a.heap.size a b)
          [(fun vs u => vs 0 = .slice (some ⟨gb, 0, none⟩) ms.length ms.length), (fun vs u => vs 1 = .int .i64 q), (fun vs u => vs 2 = .slice (some ⟨gb, 0, none⟩) ms.length ms.length), (fun vs u => vs 3 = .int .i64 q), (fun vs u => vs 4 = .pointer (some ⟨gb, q * 2, none⟩)), (fun vs u => vs 5 = .agg #[.int .i64 cy, .int .i64 pa]), (fun vs u => vs 6 = .slice (some ⟨g1, 0, none⟩) ms.length c1), (fun vs u => vs 7 = .int .i64 q), (fun vs u => vs 8 = .pointer (some ⟨g1, q * 5, none⟩)), (fun vs u => vs 9 = .agg #[.string key, .int .i64 each, .int .i64 fixed, .int .i64 feed, .slice A4 can.length c4]), (fun vs u => vs 10 = .slice (some ⟨g2, 0, none⟩) ns.length c2), (fun vs u => vs 11 = .int .i64 j), (fun vs u => vs 12 = .pointer (some ⟨g2, j * 2, none⟩)), (fun vs u => vs 13 = .agg #[.string part, .int .i64 many]), (fun vs u => vs 14 = .agg #[.int .i64 X, .int .i64 Y])]
          [[], [], [], [], [2, 3], [2, 3, 4], [], [], [6, 7], [6, 7, 8], [], [], [10, 11], [10, 11, 12], [2, 3, 4, 5, 6, 7, 8, 9, 10, 11, 12, 13]] [some 41, some 42, some 43, some 44, some 45, some 46, some 47, some 48, some 49, some 50, some 51, some 52, some 53, some 54, some 55, some 56, none] [] (fun _ _ => True) [[], [], [], [], [2, 3], [2, 3, 4], [], [], [6, 7], [6, 7, 8], [], [], [10, 11], [10, 11, 12], [2, 3, 4, 5, 6, 7, 8, 9, 10, 11, 12, 13], [0, 1, 2, 3, 4, 5, 6, 7, 8, 9, 10, 11, 12, 13, 14], [0, 1, 2, 3, 4, 5, 6, 7, 8, 9, 10, 11, 12, 13, 14, 15]]
          (by kernel_rfl) (by decide) (by kernel_rfl) (by kernel_rfl) (by kernel_rfl) (by kernel_rfl) (by kernel_rfl) (fun _ => Below.refl _ _) (fun _ _ _ h k => h.ext k) (fun _ _ h => h.size) ?_ trivial ?_ ?_
        · intro t ht vs w w' h hE
          simp only [List.mem_cons, List.not_mem_nil, or_false] at ht
          rcases ht with rfl | rfl | rfl | rfl | rfl | rfl | rfl | rfl | rfl | rfl | rfl | rfl | rfl | rfl | rfl
          · exact h
          · exact h
          · exact h
          · exact h
          · exact h
          · exact h
          · exact h
          · exact h
          · exact h
          · exact h
          · exact h
          · exact h
          · exact h
          · exact h
          · exact h
        ·
          refine Rg.cons 0 1 rfl (Rg.plain rfl ?_) ?_
          · intro vs W n hn hI hG hT hF K hK
            simp only [Rg.putsD, List.getD_cons_zero, List.getD_cons_succ, Act.put, List.setIfInBounds_toArray, List.set_cons_zero, List.set_cons_succ] at hK ⊢
            clear hn
            clear hF hI
            have H := Lib.hid hK
            clear hK hT
            go_simp
            exact H.out _ _ (Below.refl _ _) rfl (fun h => by cases h) trivial
          refine Rg.cons 1 2 rfl (Rg.plain rfl ?_) ?_
          · intro vs W n hn hI hG hT hF K hK
            simp only [Rg.putsD, List.getD_cons_zero, List.getD_cons_succ, Act.put, List.setIfInBounds_toArray, List.set_cons_zero, List.set_cons_succ] at hK ⊢
            clear hn
            clear hF hI
            have H := Lib.hid hK
            clear hK hT
            go_simp
            exact H.out _ _ (Below.refl _ _) rfl (fun h => by cases h) trivial
          refine Rg.cons 2 3 rfl (Rg.plain rfl ?_) ?_
          · intro vs W n hn hI hG hT hF K hK
            simp only [Rg.putsD, List.getD_cons_zero, List.getD_cons_succ, Act.put, List.setIfInBounds_toArray, List.set_cons_zero, List.set_cons_succ] at hK ⊢
            clear hn
            clear hF hI
            have H := Lib.hid hK
            clear hK hT
            go_simp
            exact H.out _ _ (Below.refl _ _) rfl (fun h => by cases h) trivial
          refine Rg.cons 3 4 rfl (Rg.plain rfl ?_) ?_
          · intro vs W n hn hI hG hT hF K hK
            simp only [Rg.putsD, List.getD_cons_zero, List.getD_cons_succ, Act.put, List.setIfInBounds_toArray, List.set_cons_zero, List.set_cons_succ] at hK ⊢
            clear hn
            clear hF hI
            have H := Lib.hid hK
            clear hK hT
            go_simp
            exact H.out _ _ (Below.refl _ _) rfl (fun h => by cases h) trivial
          refine Rg.cons 4 5 rfl (Rg.plain rfl ?_) ?_
          · intro vs W n hn hI hG hT hF K hK
            simp only [Rg.putsD, List.getD_cons_zero, List.getD_cons_succ, Act.put, List.setIfInBounds_toArray, List.set_cons_zero, List.set_cons_succ] at hK ⊢
            clear hn
            clear hF hI
            have t2 : vs 2 = .slice (some ⟨gb, 0, none⟩) ms.length ms.length := hT 2 (by decide)
            have t3 : vs 3 = .int .i64 q := hT 3 (by decide)
            simp only [t2, t3] at hK
            have H := Lib.hid hK
            clear hK hT
            go_simp
            exact H.out _ _ (Below.refl _ _) rfl (fun h => by cases h) trivial
          refine Rg.cons 5 6 rfl (Rg.plain rfl ?_) ?_
          · intro vs W n hn hI hG hT hF K hK
            simp only [Rg.putsD, List.getD_cons_zero, List.getD_cons_succ, Act.put, List.setIfInBounds_toArray, List.set_cons_zero, List.set_cons_succ] at hK ⊢
            clear hn
            clear hF hI
            have t2 : vs 2 = .slice (some ⟨gb, 0, none⟩) ms.length ms.length := hT 2 (by decide)
            have t3 : vs 3 = .int .i64 q := hT 3 (by decide)
            have t4 : vs 4 = .pointer (some ⟨gb, q * 2, none⟩) := hT 4 (by decide)
            have c0 := (hG.cell (p := ⟨gb, q * 2, none⟩) hgb).trans l0
            have c1 := (hG.cell (p := ⟨gb, q * 2 + 1, none⟩) hgb).trans l1
            simp only [t2, t3, t4] at hK
            have H := Lib.hid hK
            clear hK hT
            go_simp
            exact H.out _ _ (Below.refl _ _) rfl (fun h => by cases h) trivial
          refine Rg.cons 6 7 rfl (Rg.plain rfl ?_) ?_
          · intro vs W n hn hI hG hT hF K hK
            simp only [Rg.putsD, List.getD_cons_zero, List.getD_cons_succ, Act.put, List.setIfInBounds_toArray, List.set_cons_zero, List.set_cons_succ] at hK ⊢
            clear hn
            clear hF hI
            have H := Lib.hid hK
            clear hK hT
            go_simp
            exact H.out _ _ (Below.refl _ _) rfl (fun h => by cases h) trivial
          refine Rg.cons 7 8 rfl (Rg.plain rfl ?_) ?_
          · intro vs W n hn hI hG hT hF K hK
            simp only [Rg.putsD, List.getD_cons_zero, List.getD_cons_succ, Act.put, List.setIfInBounds_toArray, List.set_cons_zero, List.set_cons_succ] at hK ⊢
            clear hn
            clear hF hI
            have H := Lib.hid hK
            clear hK hT
            go_simp
            exact H.out _ _ (Below.refl _ _) rfl (fun h => by cases h) trivial
          refine Rg.cons 8 9 rfl (Rg.plain rfl ?_) ?_
          · intro vs W n hn hI hG hT hF K hK
            simp only [Rg.putsD, List.getD_cons_zero, List.getD_cons_succ, Act.put, List.setIfInBounds_toArray, List.set_cons_zero, List.set_cons_succ] at hK ⊢
            clear hn
            clear hF hI
            have t6 : vs 6 = .slice (some ⟨g1, 0, none⟩) ms.length c1 := hT 6 (by decide)
            have t7 : vs 7 = .int .i64 q := hT 7 (by decide)
            simp only [t6, t7] at hK
            have H := Lib.hid hK
            clear hK hT
            go_simp
            exact H.out _ _ (Below.refl _ _) rfl (fun h => by cases h) trivial
          refine Rg.cons 9 10 rfl (Rg.plain rfl ?_) ?_
          · intro vs W n hn hI hG hT hF K hK
            simp only [Rg.putsD, List.getD_cons_zero, List.getD_cons_succ, Act.put, List.setIfInBounds_toArray, List.set_cons_zero, List.set_cons_succ] at hK ⊢
            clear hn
            clear hF hI
            have t6 : vs 6 = .slice (some ⟨g1, 0, none⟩) ms.length c1 := hT 6 (by decide)
            have t7 : vs 7 = .int .i64 q := hT 7 (by decide)
            have t8 : vs 8 = .pointer (some ⟨g1, q * 5, none⟩) := hT 8 (by decide)
            have c0 := (hG.cell (p := ⟨g1, q * 5, none⟩) hg1).trans q0
            have c1 := (hG.cell (p := ⟨g1, q * 5 + 1, none⟩) hg1).trans q1
            have c2 := (hG.cell (p := ⟨g1, q * 5 + 2, none⟩) hg1).trans q2
            have c3 := (hG.cell (p := ⟨g1, q * 5 + 3, none⟩) hg1).trans q3
            have c4 := (hG.cell (p := ⟨g1, q * 5 + 4, none⟩) hg1).trans q4
            simp only [t6, t7, t8] at hK
            have H := Lib.hid hK
            clear hK hT
            go_simp
            exact H.out _ _ (Below.refl _ _) rfl (fun h => by cases h) trivial
          refine Rg.cons 10 11 rfl (Rg.plain rfl ?_) ?_
          · intro vs W n hn hI hG hT hF K hK
            simp only [Rg.putsD, List.getD_cons_zero, List.getD_cons_succ, Act.put, List.setIfInBounds_toArray, List.set_cons_zero, List.set_cons_succ] at hK ⊢
            clear hn
            clear hF hI
            have H := Lib.hid hK
            clear hK hT
            go_simp
            exact H.out _ _ (Below.refl _ _) rfl (fun h => by cases h) trivial
          refine Rg.cons 11 12 rfl (Rg.plain rfl ?_) ?_
          · intro vs W n hn hI hG hT hF K hK
            simp only [Rg.putsD, List.getD_cons_zero, List.getD_cons_succ, Act.put, List.setIfInBounds_toArray, List.set_cons_zero, List.set_cons_succ] at hK ⊢
            clear hn
            clear hF hI
            have H := Lib.hid hK
            clear hK hT
            go_simp
            exact H.out _ _ (Below.refl _ _) rfl (fun h => by cases h) trivial
          refine Rg.cons 12 13 rfl (Rg.plain rfl ?_) ?_
          · intro vs W n hn hI hG hT hF K hK
            simp only [Rg.putsD, List.getD_cons_zero, List.getD_cons_succ, Act.put, List.setIfInBounds_toArray, List.set_cons_zero, List.set_cons_succ] at hK ⊢
            clear hn
            clear hF hI
            have t10 : vs 10 = .slice (some ⟨g2, 0, none⟩) ns.length c2 := hT 10 (by decide)
            have t11 : vs 11 = .int .i64 j := hT 11 (by decide)
            simp only [t10, t11] at hK
            have H := Lib.hid hK
            clear hK hT
            go_simp
            exact H.out _ _ (Below.refl _ _) rfl (fun h => by cases h) trivial
          refine Rg.cons 13 14 rfl (Rg.plain rfl ?_) ?_
          · intro vs W n hn hI hG hT hF K hK
            simp only [Rg.putsD, List.getD_cons_zero, List.getD_cons_succ, Act.put, List.setIfInBounds_toArray, List.set_cons_zero, List.set_cons_succ] at hK ⊢
            clear hn
            clear hF hI
            have t10 : vs 10 = .slice (some ⟨g2, 0, none⟩) ns.length c2 := hT 10 (by decide)
            have t11 : vs 11 = .int .i64 j := hT 11 (by decide)
            have t12 : vs 12 = .pointer (some ⟨g2, j * 2, none⟩) := hT 12 (by decide)
            have c0 := (hG.cell (p := ⟨g2, j * 2, none⟩) hg2').trans n0
            have c1 := (hG.cell (p := ⟨g2, j * 2 + 1, none⟩) hg2').trans n1
            simp only [t10, t11, t12] at hK
            have H := Lib.hid hK
            clear hK hT
            go_simp
            exact H.out _ _ (Below.refl _ _) rfl (fun h => by cases h) trivial
          refine Rg.cons 14 15 rfl (Rg.plain rfl ?_) ?_
          · intro vs W n hn hI hG hT hF K hK
            simp only [Rg.putsD, List.getD_cons_zero, List.getD_cons_succ, Act.put, List.setIfInBounds_toArray, List.set_cons_zero, List.set_cons_succ] at hK ⊢
            clear hn
            clear hF hI
            have t2 : vs 2 = .slice (some ⟨gb, 0, none⟩) ms.length ms.length := hT 2 (by decide)
            have t3 : vs 3 = .int .i64 q := hT 3 (by decide)
            have t4 : vs 4 = .pointer (some ⟨gb, q * 2, none⟩) := hT 4 (by decide)
            have t5 : vs 5 = .agg #[.int .i64 cy, .int .i64 pa] := hT 5 (by decide)
            have t6 : vs 6 = .slice (some ⟨g1, 0, none⟩) ms.length c1 := hT 6 (by decide)
            have t7 : vs 7 = .int .i64 q := hT 7 (by decide)
            have t8 : vs 8 = .pointer (some ⟨g1, q * 5, none⟩) := hT 8 (by decide)
            have t9 : vs 9 = .agg #[.string key, .int .i64 each, .int .i64 fixed, .int .i64 feed, .slice A4 can.length c4] := hT 9 (by decide)
            have t10 : vs 10 = .slice (some ⟨g2, 0, none⟩) ns.length c2 := hT 10 (by decide)
            have t11 : vs 11 = .int .i64 j := hT 11 (by decide)
            have t12 : vs 12 = .pointer (some ⟨g2, j * 2, none⟩) := hT 12 (by decide)
            have t13 : vs 13 = .agg #[.string part, .int .i64 many] := hT 13 (by decide)
            have HG := Lib.hid hG
            clear hG
            simp only [t2, t3, t4, t5, t6, t7, t8, t9, t10, t11, t12, t13] at hK
            have H := Lib.hid hK
            clear hK hT
            go_simp
            refine (CW.out _).mono ?_
            rintro e w8 ⟨rfl, b8⟩
            exact H.out _ _ b8 rfl (fun h => by cases h) trivial
          exact Rg.nil
        · intro vs W hG hI hT hF
          have t0 : vs 0 = .slice (some ⟨gb, 0, none⟩) ms.length ms.length := hT 0 (by decide)
          have t1 : vs 1 = .int .i64 q := hT 1 (by decide)
          have t2 : vs 2 = .slice (some ⟨gb, 0, none⟩) ms.length ms.length := hT 2 (by decide)
          have t3 : vs 3 = .int .i64 q := hT 3 (by decide)
          have t4 : vs 4 = .pointer (some ⟨gb, q * 2, none⟩) := hT 4 (by decide)
          have t5 : vs 5 = .agg #[.int .i64 cy, .int .i64 pa] := hT 5 (by decide)
          have t6 : vs 6 = .slice (some ⟨g1, 0, none⟩) ms.length c1 := hT 6 (by decide)
          have t7 : vs 7 = .int .i64 q := hT 7 (by decide)
          have t8 : vs 8 = .pointer (some ⟨g1, q * 5, none⟩) := hT 8 (by decide)
          have t9 : vs 9 = .agg #[.string key, .int .i64 each, .int .i64 fixed, .int .i64 feed, .slice A4 can.length c4] := hT 9 (by decide)
          have t10 : vs 10 = .slice (some ⟨g2, 0, none⟩) ns.length c2 := hT 10 (by decide)
          have t11 : vs 11 = .int .i64 j := hT 11 (by decide)
          have t12 : vs 12 = .pointer (some ⟨g2, j * 2, none⟩) := hT 12 (by decide)
          have t13 : vs 13 = .agg #[.string part, .int .i64 many] := hT 13 (by decide)
          have t14 : vs 14 = .agg #[.int .i64 X, .int .i64 Y] := hT 14 (by decide)
          simp only [List.length_cons, List.length_nil, Nat.reduceAdd, List.range, List.range.loop, List.drop_succ_cons, List.drop_zero, Rg.putsD, List.getD_cons_zero, List.getD_cons_succ, Act.put, List.setIfInBounds_toArray, List.set_cons_zero, List.set_cons_succ, t0, t1, t2, t3, t4, t5, t6, t7, t8, t9, t10, t11, t12, t13, t14]
          clear hT t0 t1 t2 t3 t4 t5 t6 t7 t8 t9 t10 t11 t12 t13 t14
          have hGW := (Below.refl w6.heap.size w6).drew.then_below hG (Nat.le_refl _)
          have HX : Hid (NS w gp (nz (P.set j (q : Int))) W ∧ LS w gb (ldL ms ns P) W ∧ W.ownsRow z2 3 1 (.slice (some ⟨g3, 0, none⟩) ns.length c3) ns.length ((ordN ns).map (Value.int .i64))) := ⟨H6.out.1.then_ hGW, H6.out.2.1.then_ hGW, own_below H6.out.2.2 hGW⟩
          have f0 := HX.out.2.1.fr (q * 2)
          have f1 := HX.out.2.1.fr (q * 2 + 1)
          have pg := lt_of_blk HX.out.2.1.row
          obtain ⟨l0', l1'⟩ := HX.out.2.1.at_ hLq
          have H2 : Hid (NS w gp (nz (P.set j (q : Int))) ((W.setCell ⟨gb, q * 2, none⟩ (.int .i64 X)).setCell ⟨gb, q * 2 + 1, none⟩ (.int .i64 Y)) ∧ LS w gb (ldL ms ns (P.set j (q : Int))) ((W.setCell ⟨gb, q * 2, none⟩ (.int .i64 X)).setCell ⟨gb, q * 2 + 1, none⟩ (.int .i64 Y)) ∧ ((W.setCell ⟨gb, q * 2, none⟩ (.int .i64 X)).setCell ⟨gb, q * 2 + 1, none⟩ (.int .i64 Y)).ownsRow z2 3 1 (.slice (some ⟨g3, 0, none⟩) ns.length c3) ns.length ((ordN ns).map (Value.int .i64))) := by
            have hL := HX.out.2.1.set hLq X Y
            rw [← HLD.out] at hL
            exact ⟨⟨hL.bel, HX.out.1.new, blk_far (blk_far HX.out.1.row (by show gp ≠ gb; omega) _) (by show gp ≠ gb; omega) _⟩, hL, own_ne (own_ne HX.out.2.2 (by show gb ≠ g3; omega) _) (by show gb ≠ g3; omega) _⟩
          clear hF hI hG hGW l0 l1 q0 q1 q2 q3 q4 n0 n1 HX H6 CW
          go_wp2_with fail
          go_roundw
          case rel => exact ⟨t + 1, P.set j (q : Int), by omega, by go_num, by rw [List.length_set]; exact hPl, HFN.out, H2.out.1, H2.out.2.1, H2.out.2.2⟩
          case measure => simp [intOf] <;> omega
      · have HNO : Hid (fpF ms ns = false ∧ fpP ms ns = []) := by
          have h : fpV ms ns = none := HV.out.trans (if_neg hq)
          exact ⟨by unfold fpF; rw [h]; rfl, by unfold fpP; rw [h]; rfl⟩
        have hd : decide (c < MX) = false := decide_eq_false hq
        rw [hd]
        go_wp2_with fail
        refine bodyPost_ret (v := .tuple #[.slice none 0 0, .bool false]) (by unfold results; simp only [Tryz.results28]; go_simp) rfl ⟨.slice none 0 0, by rw [HNO.out.1], by rw [HNO.out.2]; exact nil_readsN _, H5.out.1.bel⟩
    · obtain rfl : t = ns.length := by omega
      have hla := HS.out.1
      rw [← ordN_len ns] at hla
      have HLa := Lib.hid hla.last
      clear hla
      have i1 : ¬ (ns.length : Int) < (ns.length : Int) := by omega
      have HMem : Hid (NS w gp (nz P) wr) := HS.out.2.1
      clear HS
      go_wp2_with fail
      refine bodyPost_ret (v := .tuple #[.slice (some ⟨gp, 0, none⟩) ns.length ns.length, .bool true]) (by unfold results; simp only [Tryz.results28]; go_simp) rfl ⟨.slice (some ⟨gp, 0, none⟩) ns.length ns.length, ?_, ?_, HMem.out.bel⟩
      · unfold fpF
        rw [HLa.out.2]
        rfl
      · have h := HMem.out.row
        rw [HLa.out.1] at h
        unfold fpP
        rw [HLa.out.2]
        exact readsN_own' (own_of_blk (base := 0) h (Nat.zero_le _) hPl (by omega)) hPl.symm
end Go.Proofs.YtopoemfnnnfgdaaGreatDoor
