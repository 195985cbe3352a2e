/-
  The plan by the rule of thumb: the reference's answer.
-/
import Derived.Test.YtopoemfnnnfgdaaGreatDoorLdG
import Derived.Test.YtopoemfnnnfgdaaGreatDoorLdR
namespace Go.Proofs.YtopoemfnnnfgdaaGreatDoor
open Go.RowKit
set_option linter.unusedSimpArgs false
set_option linter.unusedVariables false

def od (t j : Nat) : Int := if j < t then (j : Int) else 0
theorem od_set {n t : Nat} : (rg n (od t)).set t (t : Int) = rg n (od (t + 1)) := by
  refine rg_set t (t : Int) (by unfold od; rw [if_pos (by omega)]) (fun s hs => ?_)
  unfold od
  by_cases h : s < t
  · rw [if_pos h, if_pos (by omega)]
  · rw [if_neg h, if_neg (by omega)]
theorem od_done (n : Nat) : rg n (od n) = idN n := by
  rw [rg_congr (g := fun j => (j : Int)) (fun s hs => by unfold od; rw [if_pos hs])]
  rfl
theorem od_zero (n : Nat) : rg n (od 0) = List.replicate n 0 := by
  unfold rg od
  apply List.ext_getElem
  · simp
  · intro j h1 h2
    simp
/-- What stands in memory once the order is there. -/
def FM (wx : World) (go gp : Nat) (ns : List Nd) (P : List Int) (W : World) : Prop :=
  NS wx gp P W ∧ W.ownsRow wx.heap.size 3 1 (.slice (some ⟨go, 0, none⟩) ns.length ns.length) ns.length ((ordN ns).map (Value.int .i64))
theorem FM.below {wx : World} {go gp : Nat} {ns : List Nd} {P : List Int} {W W' : World} (h : FM wx go gp ns P W) (hb : Below W.heap.size W W') : FM wx go gp ns P W' := ⟨h.1.then_ hb, own_below h.2 hb⟩
theorem FM.set {wx : World} {go gp : Nat} {ns : List Nd} {P : List Int} {W : World} (h : FM wx go gp ns P W) (hne : gp ≠ go) (j : Nat) (x : Int) : FM wx go gp ns (P.set j x) (W.setCell ⟨gp, j, none⟩ (.int .i64 x)) := ⟨h.1.set j x, own_ne h.2 hne _⟩

theorem cntZ_take (P : List Int) (k : Int) {s : Nat} (hs : s < P.length) : (((P.take (s + 1)).count k : Nat) : Int) = (((P.take s).count k : Nat) : Int) + if P[s] = k then 1 else 0 := by
  rw [List.take_succ_eq_append_getElem hs, List.count_append, List.count_singleton]
  by_cases h : P[s] = k
  · rw [if_pos h]; simp [h]
  · rw [if_neg h]; simp [h]
set_option maxRecDepth 100000 in
set_option maxHeartbeats 32000000 in
theorem firstPlan_any {base : Nat} (ms : List Mc) (ns : List Nd) (hm : MsOk ms) (hn : NsOk ns) (hnl : ns.length ≤ 13) {v1 v2 : Value} {w : World} (h1 : MsF base v1 ms w) (h2 : Reads encD v2 ns w) :
    Calls Tryz.prog 15 #[v1, v2] w fun e w' => ∃ v, e = .returned (.tuple #[v, .bool (fpF ms ns)]) ∧ Reads encN v (fpP ms ns) w' ∧ Below w.heap.size w w' := by
  have HR := Lib.hid (And.intro h1 h2)
  have HM := Lib.hid hm
  have HN := Lib.hid hn
  have hmf := hm.few
  have hms := hm.some
  have hmk := run_makeI ns.length (by omega)
  have CC := Lib.hid (fun (W : World) (hb : Below w.heap.size w W) (P : List Int) (v : Value) (hl : P.length = ns.length) (h : Reads encN v P W) => cyclesOf_any ms ns P hm hn (by omega) (h1.below hb) (h2.below hb) h)
  obtain ⟨A1, c1, rfl, hc1, _⟩ := h1
  obtain ⟨A2, c2, rfl, h2'⟩ := h2
  have HX : Hid (NAt w.heap.size ns (w.alloc (.cells #[.slice A2 ns.length c2] 28)) ∧ Below w.heap.size w (w.alloc (.cells #[.slice A2 ns.length c2] 28)) ∧ (w.alloc (.cells #[.slice A2 ns.length c2] 28)).heap[w.heap.size]? = some (.cells #[.slice A2 ns.length c2] 28 (0, 0))) :=
    ⟨⟨A2, c2, blk_new w _ rfl, (show Reads encD (.slice A2 ns.length c2) ns w from ⟨A2, c2, rfl, h2'⟩).below ((Below.refl _ _).alloc (Nat.le_refl _) _)⟩, (Below.refl _ _).alloc (Nat.le_refl _) _, blk_new w _ rfl⟩
  clear h2' hm hn
  go_enter Tryz.func15, Tryz.ntmps15
  go_upto_region 1 with (fail)
  generalize w.alloc (.cells #[.slice A2 ns.length c2] 28) = wx at *
  have c0 := cell_of_blk HX.out.2.2 0
  simp at c0
  have l0 := lt_of_blk HX.out.2.2
  have H0 : Hid (NS wx wx.heap.size (rg ns.length (od 0)) (wx.alloc (.cells (Array.replicate ns.length (.int .i64 0)) 3))) := by
    refine ⟨(Below.refl _ _).alloc (Nat.le_refl _) _, Nat.le_refl _, ?_⟩
    rw [od_zero, ← zeros]
    exact blk_new wx _ rfl
  go_upto_region 2 with (fail)
  generalize wx.alloc (.cells (Array.replicate ns.length (.int .i64 0)) 3) = w1 at *
  clear c0 hmk
  go_wp2_with fail
  go_loopw [24] (fun kk wr => ∃ t : Nat, t ≤ ns.length ∧ kk = .int .i64 t ∧ Hid (NS wx wx.heap.size (rg ns.length (od t)) wr)) (fun kk _ => ns.length - (intOf kk).toNat)
  case atStart => exact ⟨0, by omega, rfl, H0.out⟩
  case round =>
    clear H0
    obtain ⟨t, ht, rfl, HS⟩ := hrel
    by_cases htl : t < ns.length
    · have lp := lt_of_blk HS.out.row
      have fp := frozen_of_blk HS.out.row t
      have cp := HS.out.at_ (k := t) (by rw [rg_len]; exact htl)
      have i1 : (0 : Int) ≤ (t : Int) := by omega
      have i2 : (t : Int) < (ns.length : Int) := by omega
      have H5 : Hid (NS wx wx.heap.size (rg ns.length (od (t + 1))) (wr.setCell ⟨wx.heap.size, t, none⟩ (.int .i64 t))) := by
        have h := HS.out.set t (t : Int)
        rw [od_set] at h
        exact h
      clear HS
      go_wp2_with fail
      go_roundw
      case rel => exact ⟨t + 1, by omega, by go_num, H5⟩
      case measure => simp [intOf] <;> omega
    · obtain rfl : t = ns.length := by omega
      have i1 : ¬ (ns.length : Int) < (ns.length : Int) := by omega
      have hrow := HS.out.row
      rw [od_done] at hrow
      have CS0 := sortStable_any (enters_of Tryz.func38 (by kernel_rfl) rfl) w.heap.size (cfN ns) ns.length wx.heap.size (idN ns.length) (by rw [idN_len]; omega) (fun x hx => by
        obtain ⟨j, hj, rfl⟩ := idN_mem.mp hx
        omega) HS.out.bel.size (fun a b W ha1 ha2 hb1 hb2 hW => greaterR_any ns HN.out w.heap.size a b ha1 ha2 hb1 hb2 W (HX.out.1.below (HS.out.bel.trans hW))) (own_of_blk hrow (Nat.le_refl _) rfl (by rw [idN_len]; omega))
      rw [idN_len] at CS0
      have HOE : Hid (sortS (cfN ns) (idN ns.length) = ordN ns) := rfl
      rw [HOE.out] at CS0
      have HCS := Lib.hid CS0
      have HBW := Lib.hid HS.out.bel
      clear CS0 HS HOE hrow
      obtain ⟨go, hgo⟩ : ∃ go, wx.heap.size = go := ⟨_, rfl⟩
      rw [hgo] at HCS ⊢
      go_wp2_with fail
      refine HCS.out.mono ?_
      rintro e w6 ⟨rfl, b6, o6⟩
      have H6 : Hid (Below wx.heap.size wx w6 ∧ w6.ownsRow wx.heap.size 3 1 (.slice (some ⟨go, 0, none⟩) ns.length ns.length) ns.length ((ordN ns).map (Value.int .i64))) := ⟨HBW.out.trans (by rw [hgo]; exact b6), by rw [hgo]; exact o6⟩
      have hg6 := own_glt o6
      clear b6 o6 HCS HBW
      have hkn := blk_below H6.out.1 HX.out.2.2
      have c0 := cell_of_blk hkn 0
      simp at c0
      have l6 := lt_of_blk hkn
      have CR := Lib.hid (fun (W : World) (gx : Nat) (h : W.heap[gx]? = some (.cells #[.int .i64 (-1)] 3 (0, 0))) => repeatR_any (-1) gx ns.length (by omega) h)
      clear hkn
      go_wp2_with fail
      refine (CR.out _ _ (blk_new w6 _ rfl)).mono ?_
      rintro e w8 ⟨gp, rfl, hNS⟩
      have H8 : Hid (FM wx go gp ns (List.replicate ns.length (-1)) w8) := by
        have hb : Below w6.heap.size w6 w8 := by
          exact ((Below.refl w6.heap.size w6).alloc (Nat.le_refl _) _).then_below hNS.bel (by simp)
        refine ⟨⟨H6.out.1.then_below hb H6.out.1.size, ?_, hNS.row⟩, own_below H6.out.2 hb⟩
        have h1 := hNS.new
        have h2 := H6.out.1.size
        simp at h1
        omega
      have hgp : go < gp := by
        have h1 := hNS.new
        simp at h1
        omega
      have hgn := hNS.bel.size
      clear hNS H6 c0 l6 CR hg6
      have hgg : gp ≠ go := by omega
      clear hgn hgp
      go_wp2_with fail
      go_loopw [41] (fun kk wr => ∃ (t : Nat) (P : List Int), t ≤ ns.length ∧ kk = .int .i64 t ∧ P.length = ns.length ∧ Hid (FpI ms ns t P ∧ FM wx go gp ns P wr)) (fun kk _ => ns.length - (intOf kk).toNat)
      case atStart => exact ⟨0, List.replicate ns.length (-1), by omega, rfl, by simp, fpI_start ms ns, H8.out⟩
      case round =>
        clear H8 ht htl i1
        obtain ⟨t, P, ht, rfl, hPl, HS⟩ := hrel
        by_cases htl : t < ns.length
        · have hto : t < (ordN ns).length := by rw [ordN_len]; exact htl
          obtain ⟨j, hj, hoj, hPj, hv⟩ := HS.out.1.at_ hto
          have HV := Lib.hid hv
          have HFI := Lib.hid HS.out.1
          have HQ0 : Hid (FM wx go gp ns P wr) := HS.out.2
          have cj := own_cell HQ0.out.2 hto (ordN_len ns)
          rw [hoj] at cj
          have lgo := own_glt HQ0.out.2
          have hjP : j < P.length := by omega
          have hPe : P[j] = -1 := by rw [← getD_at hjP]; exact hPj
          have HFS : Hid (fpS ms ns j P = qk ms (ldL ms ns P) ns[j].part ns[j].many ms.length) := by
            show _ = _
            unfold fpS
            rw [Int.toNat_natCast, ndA_at hj]
          have hql : (fpS ms ns j P).1 < ms.length := qk_lt (by omega) _ _ _ _ (Nat.le_refl _)
          have HSTEP := Lib.hid (fun h => HFI.out.step hto hj hoj (fpS ms ns j P).1 h)
          have hma := HN.out.many _ (List.getElem_mem hj)
          have HBK : Hid (P.set j (-1) = P) := by
            show _ = _
            rw [← hPe]
            exact List.set_getElem_self hjP
          obtain ⟨part, hpart⟩ : ∃ x, ns[j].part = x := ⟨_, rfl⟩
          obtain ⟨many, hmany⟩ : ∃ x, ns[j].many = x := ⟨_, rfl⟩
          rw [hpart, hmany] at HFS
          rw [hmany] at hma
          have HPM := Lib.hid (And.intro hpart hmany)
          have HPE := Lib.hid hPe
          have i1 : (t : Int) < (ns.length : Int) := by omega
          have i2 : (0 : Int) ≤ (j : Int) := by omega
          have i3 : (j : Int) < (ns.length : Int) := by omega
          clear HS hv hoj hPj hPe hpart hmany
          go_wp2_with fail
          clear cj lgo
          go_loopw [11, 12, 47] (fun v11 v12 kk wq => ∃ (k : Nat) (b l : Int), k ≤ ms.length ∧ kk = .int .i64 k ∧ v11 = .int .i64 b ∧ v12 = .int .i64 l ∧ Hid ((b, l) = rfB (qk ms (ldL ms ns P) part many k) ∧ FM wx go gp ns P wq)) (fun _ _ kk _ => ms.length - (intOf kk).toNat)
          case atStart => exact ⟨0, -1, 0, by omega, rfl, rfl, rfl, by unfold rfB; rw [qk]; rfl, HQ0.out⟩
          case round =>
            clear HQ0
            obtain ⟨k, b, l, hk, rfl, rfl, rfl, HK⟩ := hrel
            by_cases hkm : k < ms.length
            · have hwb : Below w.heap.size w wr := HX.out.2.1.trans (HK.out.2.1.bel.mono HX.out.2.1.size)
              obtain ⟨g1, e1, hg1, q0, q1, q2, q3, u, q4, hu⟩ := (HR.out.1.below hwb).at_ hkm
              cases e1
              obtain ⟨A4, c4, rfl, hu2⟩ := hu
              have HU : Hid (ReadsF base encS (.slice A4 ms[k].can.length c4) ms[k].can wr) := ⟨A4, c4, rfl, hu2⟩
              have hmo := HM.out.ok _ (List.getElem_mem hkm)
              have hfew := hmo.few
              have hfe := hmo.feed
              have hkL : k < (ldL ms ns P).length := by rw [ldL_len]; exact hkm
              have hLk : (ldL ms ns P).getD k (0, 0) = (cyOf ms[k] k P ns, ((P.count (k : Int) : Nat) : Int)) := by
                rw [List.getD_eq_getElem?_getD, List.getElem?_eq_getElem hkL, ← ldL_at _ _ _ hkm]
                rfl
              have hcs : cyOf ms[k] k (P.set j (k : Int)) ns = cyOf ms[k] k P ns + ms[k].each * many := by
                rw [cyOf_set hjP hj HPE.out, HPM.out.2]
              have hcb := cyOf_bound hmo k (P.set j (k : Int)) HN.out
              have HQK : Hid (qk ms (ldL ms ns P) part many (k + 1) = if (decide (((P.count (k : Int) : Nat) : Int) < ms[k].feed) && has ms[k].can part) = true ∧ cyOf ms[k] k (P.set j (k : Int)) ns < (qk ms (ldL ms ns P) part many k).2 then (k, cyOf ms[k] k (P.set j (k : Int)) ns) else qk ms (ldL ms ns P) part many k) := by
                show _ = _
                rw [qk, qkO, qkC, hLk, mcA_at hkm, hcs]
              have HCA : Hid (∀ W : World, ∀ v : Value, ∀ b0 : Nat, W.ownsRow b0 3 1 v ms.length ((cyL ms ns (P.set j (k : Int))).map (Value.int .i64)) → ∃ (g : Nat) (c : Nat), v = .slice (some ⟨g, 0, none⟩) ms.length c ∧ g < W.heap.size ∧ W.cell? ⟨g, k, none⟩ = some (.int .i64 (cyOf ms[k] k (P.set j (k : Int)) ns))) := fun W v b0 h => by
                obtain ⟨g, c, e, _, hl, _, _, hrd⟩ := own_read h (by omega)
                exact ⟨g, c, e, hl, hrd k _ (by rw [List.getElem?_map, List.getElem?_eq_getElem (by rw [cyL_len]; exact hkm), cyL_at _ _ _ hkm]; rfl)⟩
              have HPC := Lib.hid (fun (s : Nat) (hs : s < P.length) => cntZ_take P (k : Int) hs)
              have HPF : Hid (P.take ns.length = P) := List.take_of_length_le (by omega)
              clear hcs hLk hkL hmo hu2 hwb
              generalize cyOf ms[k] k (P.set j (k : Int)) ns = cc at *
              generalize ms[k] = m at *
              obtain ⟨key, each, fixed, feed, can⟩ := m
              dsimp only at q0 q1 q2 q3 q4 HU HQK hfew hfe
              have i4 : (0 : Int) ≤ (k : Int) := by omega
              have i5 : (k : Int) < (ms.length : Int) := by omega
              have HBL : Hid ((b, l) = rfB (qk ms (ldL ms ns P) part many k)) := HK.out.1
              have H5 : Hid (FM wx go gp ns P (wr.alloc (.cells #[.string key, .int .i64 each, .int .i64 fixed, .int .i64 feed, .slice A4 can.length c4] 57)) ∧ (wr.alloc (.cells #[.string key, .int .i64 each, .int .i64 fixed, .int .i64 feed, .slice A4 can.length c4] 57)).heap[wr.heap.size]? = some (.cells #[.string key, .int .i64 each, .int .i64 fixed, .int .i64 feed, .slice A4 can.length c4] 57 (0, 0)) ∧ ReadsF base encS (.slice A4 can.length c4) can (wr.alloc (.cells #[.string key, .int .i64 each, .int .i64 fixed, .int .i64 feed, .slice A4 can.length c4] 57))) :=
                ⟨HK.out.2.below ((Below.refl _ _).alloc (Nat.le_refl _) _), blk_new wr _ rfl, HU.out.below ((Below.refl _ _).alloc (Nat.le_refl _) _)⟩
              have hgpx : gp < wr.heap.size := lt_of_blk HK.out.2.1.row
              go_upto_region 16 with (fail)
              generalize wr.alloc (.cells #[.string key, .int .i64 each, .int .i64 fixed, .int .i64 feed, .slice A4 can.length c4] 57) = w5 at *
              obtain ⟨gx, hgx⟩ : ∃ gx, wr.heap.size = gx := ⟨_, rfl⟩
              rw [hgx] at H5 hgpx ⊢
              clear hgx q0 q1 q2 q3 q4 HK HU hg1
              have lp5 := lt_of_blk H5.out.1.1.row
              go_wp2_with fail
              go_loopw [15, 54] (fun v15 kk wz => ∃ (s : Nat) (cn : Int), s ≤ ns.length ∧ kk = .int .i64 s ∧ v15 = .int .i64 cn ∧ 0 ≤ cn ∧ cn ≤ s ∧ Hid (cn = (((P.take s).count (k : Int) : Nat) : Int)) ∧ wz = w5) (fun _ kk _ => ns.length - (intOf kk).toNat)
              case atStart => exact ⟨0, 0, by omega, rfl, rfl, by omega, by omega, by simp [Hid], rfl⟩
              case round =>
                obtain ⟨s, cn, hs, rfl, rfl, hcn0, hcn1, HCN, rfl⟩ := hrel
                by_cases hsl : s < ns.length
                · have hsP : s < P.length := by omega
                  have cp := H5.out.1.1.at_ hsP
                  have HCT := Lib.hid (HPC.out s hsP)
                  generalize P[s] = y at *
                  have i6 : (s : Int) < (ns.length : Int) := by omega
                  have i7 : (0 : Int) ≤ (s : Int) := by omega
                  by_cases hyk : y = (k : Int)
                  · have he : (y == (k : Int)) = true := beq_iff_eq.mpr hyk
                    have HC2 : Hid (cn + 1 = (((P.take (s + 1)).count (k : Int) : Nat) : Int)) := by
                      show _ = _
                      rw [HCT.out, if_pos hyk, HCN.out]
                    clear HCT HCN hyk
                    go_wp2_with fail
                    go_roundw
                    case rel => exact ⟨s + 1, cn + 1, by omega, by go_num, rfl, by omega, by omega, HC2, trivial⟩
                    case measure => simp [intOf] <;> omega
                  · have he : (y == (k : Int)) = false := beq_eq_false_iff_ne.mpr hyk
                    have HC2 : Hid (cn = (((P.take (s + 1)).count (k : Int) : Nat) : Int)) := by
                      show _ = _
                      rw [HCT.out, if_neg hyk, HCN.out, Int.add_zero]
                    clear HCT HCN hyk
                    go_wp2_with fail
                    go_roundw
                    case rel => exact ⟨s + 1, cn, by omega, by go_num, rfl, by omega, by omega, HC2, trivial⟩
                    case measure => simp [intOf] <;> omega
                · obtain rfl : s = ns.length := by omega
                  have hce := HCN.out
                  rw [HPF.out] at hce
                  rw [← hce] at HQK
                  have i6 : ¬ (ns.length : Int) < (ns.length : Int) := by omega
                  clear hce HCN HPC
                  go_upto_region 23 with (fail)
                  obtain ⟨okc, hokc⟩ : ∃ x, (decide (cn < feed) && has can part) = x := ⟨_, rfl⟩
                  rw [hokc] at HQK
                  have HKC := Lib.hid hokc
                  clear hokc
                  go_cut [78] (fun v wc => v = .bool (!okc) ∧ Hid (FM wx go gp ns P wc))
                  case first =>
                    by_cases hfe2 : feed ≤ cn
                    · have HD : Hid (okc = false) := by
                        show _ = _
                        rw [← HKC.out, decide_eq_false (by omega : ¬ cn < feed)]
                        rfl
                      refine Rg.rgL (fun a b => Below a.heap.size a b)
                        [(fun vs u => vs 0 = .int .i64 cn), (fun vs u => vs 1 = .pointer (some ⟨gx, 3, none⟩)), (fun vs u => vs 2 = .int .i64 feed), (fun vs u => vs 3 = .bool true), (fun vs u => vs 4 = .bool true), (fun vs u => vs 5 = undef), (fun vs u => vs 6 = undef), (fun vs u => vs 7 = undef), (fun vs u => vs 8 = undef), (fun vs u => vs 9 = undef), (fun vs u => vs 10 = undef), (fun vs u => vs 11 = undef)]
                        [[], [], [1], [0, 1, 2], [0, 1, 2, 3], [0, 1, 2, 3, 4], [0, 1, 2, 3, 4, 5], [0, 1, 2, 3, 4], [0, 1, 2, 3, 4], [0, 1, 2, 3, 4, 7, 8], [0, 1, 2, 3, 4, 7, 8, 9], [0, 1, 2, 3, 4, 7, 8, 9, 10]] [some 64, some 65, some 66, some 67, some 68, some 69, some 70, some 71, some 72, some 73, some 74, some 75, some 76, some 77, some 78] [] (fun _ _ => True) [[], [], [1], [0, 1, 2], [0, 1, 2, 3], [0, 1, 2, 3, 4], [0, 1, 2, 3, 4, 5], [0, 1, 2, 3, 4], [0, 1, 2, 3, 4], [0, 1, 2, 3, 4, 7, 8], [0, 1, 2, 3, 4, 7, 8, 9], [0, 1, 2, 3, 4, 7, 8, 9, 10], [0, 1, 2, 3, 4, 5, 6, 7, 8, 9, 10, 11], [0, 1, 2, 3, 4, 5, 6, 7, 8, 9, 10, 11, 12], [0, 1, 2, 3, 4, 5, 6, 7, 8, 9, 10, 11, 12, 13]]
                        (by kernel_rfl) (by decide) (by kernel_rfl) (by kernel_rfl) (by kernel_rfl) (by kernel_rfl) (by kernel_rfl) (fun _ => Below.refl _ _) (fun _ _ _ h k => h.ext k) (fun _ _ h => h.size) ?_ trivial ?_ ?_
                      · intro t ht vs w w' h hE
                        simp only [List.mem_cons, List.not_mem_nil, or_false] at ht
                        rcases ht with rfl | rfl | rfl | rfl | rfl | rfl | rfl | rfl | rfl | rfl | rfl | rfl
                        · exact h
                        · exact h
                        · exact h
                        · exact h
                        · exact h
                        · exact h
                        · exact h
                        · exact h
                        · exact h
                        · exact h
                        · exact h
                        · exact h
                      ·
                        refine Rg.cons 0 1 rfl (Rg.plain rfl ?_) ?_
                        · intro vs W n hn hI hG hT hF K hK
                          simp only [Rg.putsD, List.getD_cons_zero, List.getD_cons_succ, Act.put, List.setIfInBounds_toArray, List.set_cons_zero, List.set_cons_succ] at hK ⊢
                          clear hn
                          clear hF hI
                          have H := Lib.hid hK
                          clear hK hT
                          go_simp
                          exact H.out _ _ (Below.refl _ _) rfl (fun h => by cases h) trivial
                        refine Rg.cons 1 2 rfl (Rg.plain rfl ?_) ?_
                        · intro vs W n hn hI hG hT hF K hK
                          simp only [Rg.putsD, List.getD_cons_zero, List.getD_cons_succ, Act.put, List.setIfInBounds_toArray, List.set_cons_zero, List.set_cons_succ] at hK ⊢
                          clear hn
                          clear hF hI
                          have H := Lib.hid hK
                          clear hK hT
                          go_simp
                          exact H.out _ _ (Below.refl _ _) rfl (fun h => by cases h) trivial
                        refine Rg.cons 2 3 rfl (Rg.plain rfl ?_) ?_
                        · intro vs W n hn hI hG hT hF K hK
                          simp only [Rg.putsD, List.getD_cons_zero, List.getD_cons_succ, Act.put, List.setIfInBounds_toArray, List.set_cons_zero, List.set_cons_succ] at hK ⊢
                          clear hn
                          clear hF hI
                          have t1 : vs 1 = .pointer (some ⟨gx, 3, none⟩) := hT 1 (by decide)
                          obtain ⟨d0, d1, d2, d3, d4⟩ := blk5 (blk_below hG H5.out.2.1)
                          have l8 := lt_of_blk (blk_below hG H5.out.2.1)
                          simp only [t1] at hK
                          have H := Lib.hid hK
                          clear hK hT
                          go_simp
                          exact H.out _ _ (Below.refl _ _) rfl (fun h => by cases h) trivial
                        refine Rg.cons 3 4 rfl (Rg.plain rfl ?_) ?_
                        · intro vs W n hn hI hG hT hF K hK
                          simp only [Rg.putsD, List.getD_cons_zero, List.getD_cons_succ, Act.put, List.setIfInBounds_toArray, List.set_cons_zero, List.set_cons_succ] at hK ⊢
                          clear hn
                          clear hF hI
                          have t0 : vs 0 = .int .i64 cn := hT 0 (by decide)
                          have t1 : vs 1 = .pointer (some ⟨gx, 3, none⟩) := hT 1 (by decide)
                          have t2 : vs 2 = .int .i64 feed := hT 2 (by decide)
                          simp only [t0, t1, t2] at hK
                          have H := Lib.hid hK
                          clear hK hT
                          go_simp
                          exact H.out _ _ (Below.refl _ _) rfl (fun h => by cases h) trivial
                        refine Rg.cons 4 5 rfl (Rg.plain rfl ?_) ?_
                        · intro vs W n hn hI hG hT hF K hK
                          simp only [Rg.putsD, List.getD_cons_zero, List.getD_cons_succ, Act.put, List.setIfInBounds_toArray, List.set_cons_zero, List.set_cons_succ] at hK ⊢
                          clear hn
                          clear hF hI
                          have t0 : vs 0 = .int .i64 cn := hT 0 (by decide)
                          have t1 : vs 1 = .pointer (some ⟨gx, 3, none⟩) := hT 1 (by decide)
                          have t2 : vs 2 = .int .i64 feed := hT 2 (by decide)
                          have t3 : vs 3 = .bool true := hT 3 (by decide)
                          simp only [t0, t1, t2, t3] at hK
                          have H := Lib.hid hK
                          clear hK hT
                          go_simp
                          exact H.out _ _ (Below.refl _ _) rfl (fun h => by cases h) trivial
                        refine Rg.cons 5 6 rfl (Rg.skipped (fun _ => Below.refl _ _) (fun _ _ => rfl) (by decide) (fun _ _ h => h) ?_) ?_
                        · intro vs W hT
                          have tg : vs 4 = .bool true := hT 4 (by decide)
                          simp only [Rg.putsD, List.getD_cons_zero, List.getD_cons_succ, Act.put, List.setIfInBounds_toArray, List.set_cons_zero, List.set_cons_succ, tg]
                          rfl
                        refine Rg.cons 6 7 rfl (Rg.skipped (fun _ => Below.refl _ _) (fun _ _ => rfl) (by decide) (fun _ _ h => h) ?_) ?_
                        · intro vs W hT
                          have tg : vs 4 = .bool true := hT 4 (by decide)
                          simp only [Rg.putsD, List.getD_cons_zero, List.getD_cons_succ, Act.put, List.setIfInBounds_toArray, List.set_cons_zero, List.set_cons_succ, tg]
                          rfl
                        refine Rg.cons 7 8 rfl (Rg.skipped (fun _ => Below.refl _ _) (fun _ _ => rfl) (by decide) (fun _ _ h => h) ?_) ?_
                        · intro vs W hT
                          have tg : vs 4 = .bool true := hT 4 (by decide)
                          simp only [Rg.putsD, List.getD_cons_zero, List.getD_cons_succ, Act.put, List.setIfInBounds_toArray, List.set_cons_zero, List.set_cons_succ, tg]
                          rfl
                        refine Rg.cons 8 9 rfl (Rg.skipped (fun _ => Below.refl _ _) (fun _ _ => rfl) (by decide) (fun _ _ h => h) ?_) ?_
                        · intro vs W hT
                          have tg : vs 4 = .bool true := hT 4 (by decide)
                          simp only [Rg.putsD, List.getD_cons_zero, List.getD_cons_succ, Act.put, List.setIfInBounds_toArray, List.set_cons_zero, List.set_cons_succ, tg]
                          rfl
                        refine Rg.cons 9 10 rfl (Rg.skipped (fun _ => Below.refl _ _) (fun _ _ => rfl) (by decide) (fun _ _ h => h) ?_) ?_
                        · intro vs W hT
                          have tg : vs 4 = .bool true := hT 4 (by decide)
                          simp only [Rg.putsD, List.getD_cons_zero, List.getD_cons_succ, Act.put, List.setIfInBounds_toArray, List.set_cons_zero, List.set_cons_succ, tg]
                          rfl
                        refine Rg.cons 10 11 rfl (Rg.skipped (fun _ => Below.refl _ _) (fun _ _ => rfl) (by decide) (fun _ _ h => h) ?_) ?_
                        · intro vs W hT
                          have tg : vs 4 = .bool true := hT 4 (by decide)
                          simp only [Rg.putsD, List.getD_cons_zero, List.getD_cons_succ, Act.put, List.setIfInBounds_toArray, List.set_cons_zero, List.set_cons_succ, tg]
                          rfl
                        refine Rg.cons 11 12 rfl (Rg.skipped (fun _ => Below.refl _ _) (fun _ _ => rfl) (by decide) (fun _ _ h => h) ?_) ?_
                        · intro vs W hT
                          have tg : vs 4 = .bool true := hT 4 (by decide)
                          simp only [Rg.putsD, List.getD_cons_zero, List.getD_cons_succ, Act.put, List.setIfInBounds_toArray, List.set_cons_zero, List.set_cons_succ, tg]
                          rfl
                        exact Rg.nil
                      · intro vs W hG hI hT hF
                        have t0 : vs 0 = .int .i64 cn := hT 0 (by decide)
                        have t1 : vs 1 = .pointer (some ⟨gx, 3, none⟩) := hT 1 (by decide)
                        have t2 : vs 2 = .int .i64 feed := hT 2 (by decide)
                        have t3 : vs 3 = .bool true := hT 3 (by decide)
                        have t4 : vs 4 = .bool true := hT 4 (by decide)
                        have t5 : vs 5 = undef := hT 5 (by decide)
                        have t6 : vs 6 = undef := hT 6 (by decide)
                        have t7 : vs 7 = undef := hT 7 (by decide)
                        have t8 : vs 8 = undef := hT 8 (by decide)
                        have t9 : vs 9 = undef := hT 9 (by decide)
                        have t10 : vs 10 = undef := hT 10 (by decide)
                        have t11 : vs 11 = undef := hT 11 (by decide)
                        simp only [List.length_cons, List.length_nil, Nat.reduceAdd, List.range, List.range.loop, List.drop_succ_cons, List.drop_zero, Rg.putsD, List.getD_cons_zero, List.getD_cons_succ, Act.put, List.setIfInBounds_toArray, List.set_cons_zero, List.set_cons_succ, t0, t1, t2, t3, t4, t5, t6, t7, t8, t9, t10, t11]
                        clear hT t0 t1 t2 t3 t4 t5 t6 t7 t8 t9 t10 t11
                        have H6 : Hid (FM wx go gp ns P W) := H5.out.1.below ((Below.refl _ _).drew.then_below hG (Nat.le_refl _))
                        clear hF hI hG H5
                        go_wp2_with fail
                        go_meet
                        exact ⟨by rw [HD.out]; rfl, H6⟩
                    · have HD : Hid (okc = has can part) := by
                        show _ = _
                        rw [← HKC.out, decide_eq_true (by omega : cn < feed)]
                        rfl
                      have CP := Lib.hid (fun (W : World) (h : ReadsF base encS (.slice A4 can.length c4) can W) => contains_any part can.length (Nat.le_refl _) (by omega) h c4)
                      rw [List.take_of_length_le (Nat.le_refl _)] at CP
                      obtain ⟨g2, e2, hg2, n0, n1⟩ := readsD_at HR.out.2 hj
                      cases e2
                      rw [HPM.out.1] at n0
                      refine Rg.rgL (fun a b => Below a.heap.size a b)
                        [(fun vs u => vs 0 = .int .i64 cn), (fun vs u => vs 1 = .pointer (some ⟨gx, 3, none⟩)), (fun vs u => vs 2 = .int .i64 feed), (fun vs u => vs 3 = .bool false), (fun vs u => vs 4 = .bool false), (fun vs u => vs 5 = .pointer (some ⟨gx, 4, none⟩)), (fun vs u => vs 6 = .slice A4 can.length c4), (fun vs u => vs 7 = .slice (some ⟨g2, 0, none⟩) ns.length c2), (fun vs u => vs 8 = .int .i64 j), (fun vs u => vs 9 = .pointer (some ⟨g2, j * 2, none⟩)), (fun vs u => vs 10 = .pointer (some ⟨g2, j * 2, none⟩)), (fun vs u => vs 11 = .string part)]
                        [[], [], [1], [0, 1, 2], [0, 1, 2, 3], [0, 1, 2, 3, 4], [0, 1, 2, 3, 4, 5], [0, 1, 2, 3, 4], [0, 1, 2, 3, 4], [0, 1, 2, 3, 4, 7, 8], [0, 1, 2, 3, 4, 7, 8, 9], [0, 1, 2, 3, 4, 7, 8, 9, 10]] [some 64, some 65, some 66, some 67, some 68, some 69, some 70, some 71, some 72, some 73, some 74, some 75, some 76, some 77, some 78] [] (fun _ _ => True) [[], [], [1], [0, 1, 2], [0, 1, 2, 3], [0, 1, 2, 3, 4], [0, 1, 2, 3, 4, 5], [0, 1, 2, 3, 4], [0, 1, 2, 3, 4], [0, 1, 2, 3, 4, 7, 8], [0, 1, 2, 3, 4, 7, 8, 9], [0, 1, 2, 3, 4, 7, 8, 9, 10], [0, 1, 2, 3, 4, 5, 6, 7, 8, 9, 10, 11], [0, 1, 2, 3, 4, 5, 6, 7, 8, 9, 10, 11, 12], [0, 1, 2, 3, 4, 5, 6, 7, 8, 9, 10, 11, 12, 13]]
                        (by kernel_rfl) (by decide) (by kernel_rfl) (by kernel_rfl) (by kernel_rfl) (by kernel_rfl) (by kernel_rfl) (fun _ => Below.refl _ _) (fun _ _ _ h k => h.ext k) (fun _ _ h => h.size) ?_ trivial ?_ ?_
                      · intro t ht vs w w' h hE
                        simp only [List.mem_cons, List.not_mem_nil, or_false] at ht
                        rcases ht with rfl | rfl | rfl | rfl | rfl | rfl | rfl | rfl | rfl | rfl | rfl | rfl
                        · exact h
                        · exact h
                        · exact h
                        · exact h
                        · exact h
                        · exact h
                        · exact h
                        · exact h
                        · exact h
                        · exact h
                        · exact h
                        · exact h
                      ·
                        refine Rg.cons 0 1 rfl (Rg.plain rfl ?_) ?_
                        · intro vs W n hn hI hG hT hF K hK
                          simp only [Rg.putsD, List.getD_cons_zero, List.getD_cons_succ, Act.put, List.setIfInBounds_toArray, List.set_cons_zero, List.set_cons_succ] at hK ⊢
                          clear hn
                          clear hF hI
                          have H := Lib.hid hK
                          clear hK hT
                          go_simp
                          exact H.out _ _ (Below.refl _ _) rfl (fun h => by cases h) trivial
                        refine Rg.cons 1 2 rfl (Rg.plain rfl ?_) ?_
                        · intro vs W n hn hI hG hT hF K hK
                          simp only [Rg.putsD, List.getD_cons_zero, List.getD_cons_succ, Act.put, List.setIfInBounds_toArray, List.set_cons_zero, List.set_cons_succ] at hK ⊢
                          clear hn
                          clear hF hI
                          have H := Lib.hid hK
                          clear hK hT
                          go_simp
                          exact H.out _ _ (Below.refl _ _) rfl (fun h => by cases h) trivial
                        refine Rg.cons 2 3 rfl (Rg.plain rfl ?_) ?_
                        · intro vs W n hn hI hG hT hF K hK
                          simp only [Rg.putsD, List.getD_cons_zero, List.getD_cons_succ, Act.put, List.setIfInBounds_toArray, List.set_cons_zero, List.set_cons_succ] at hK ⊢
                          clear hn
                          clear hF hI
                          have t1 : vs 1 = .pointer (some ⟨gx, 3, none⟩) := hT 1 (by decide)
                          obtain ⟨d0, d1, d2, d3, d4⟩ := blk5 (blk_below hG H5.out.2.1)
                          have l8 := lt_of_blk (blk_below hG H5.out.2.1)
                          simp only [t1] at hK
                          have H := Lib.hid hK
                          clear hK hT
                          go_simp
                          exact H.out _ _ (Below.refl _ _) rfl (fun h => by cases h) trivial
                        refine Rg.cons 3 4 rfl (Rg.plain rfl ?_) ?_
                        · intro vs W n hn hI hG hT hF K hK
                          simp only [Rg.putsD, List.getD_cons_zero, List.getD_cons_succ, Act.put, List.setIfInBounds_toArray, List.set_cons_zero, List.set_cons_succ] at hK ⊢
                          clear hn
                          clear hF hI
                          have t0 : vs 0 = .int .i64 cn := hT 0 (by decide)
                          have t1 : vs 1 = .pointer (some ⟨gx, 3, none⟩) := hT 1 (by decide)
                          have t2 : vs 2 = .int .i64 feed := hT 2 (by decide)
                          simp only [t0, t1, t2] at hK
                          have H := Lib.hid hK
                          clear hK hT
                          go_simp
                          exact H.out _ _ (Below.refl _ _) rfl (fun h => by cases h) trivial
                        refine Rg.cons 4 5 rfl (Rg.plain rfl ?_) ?_
                        · intro vs W n hn hI hG hT hF K hK
                          simp only [Rg.putsD, List.getD_cons_zero, List.getD_cons_succ, Act.put, List.setIfInBounds_toArray, List.set_cons_zero, List.set_cons_succ] at hK ⊢
                          clear hn
                          clear hF hI
                          have t0 : vs 0 = .int .i64 cn := hT 0 (by decide)
                          have t1 : vs 1 = .pointer (some ⟨gx, 3, none⟩) := hT 1 (by decide)
                          have t2 : vs 2 = .int .i64 feed := hT 2 (by decide)
                          have t3 : vs 3 = .bool false := hT 3 (by decide)
                          simp only [t0, t1, t2, t3] at hK
                          have H := Lib.hid hK
                          clear hK hT
                          go_simp
                          exact H.out _ _ (Below.refl _ _) rfl (fun h => by cases h) trivial
                        refine Rg.cons 5 6 rfl (Rg.guarded ?_ ?_) ?_
                        · intro vs W hT
                          have tg : vs 4 = .bool false := hT 4 (by decide)
                          simp only [Rg.putsD, List.getD_cons_zero, List.getD_cons_succ, Act.put, List.setIfInBounds_toArray, List.set_cons_zero, List.set_cons_succ, tg]
                          rfl
                        · intro vs W n hn hI hG hT hF K hK
                          simp only [Rg.putsD, List.getD_cons_zero, List.getD_cons_succ, Act.put, List.setIfInBounds_toArray, List.set_cons_zero, List.set_cons_succ] at hK ⊢
                          clear hn
                          clear hF hI
                          have t0 : vs 0 = .int .i64 cn := hT 0 (by decide)
                          have t1 : vs 1 = .pointer (some ⟨gx, 3, none⟩) := hT 1 (by decide)
                          have t2 : vs 2 = .int .i64 feed := hT 2 (by decide)
                          have t3 : vs 3 = .bool false := hT 3 (by decide)
                          have t4 : vs 4 = .bool false := hT 4 (by decide)
                          simp only [t0, t1, t2, t3, t4] at hK
                          have H := Lib.hid hK
                          clear hK hT
                          go_simp
                          exact H.out _ _ (Below.refl _ _) rfl (fun h => by cases h) trivial
                        refine Rg.cons 6 7 rfl (Rg.guarded ?_ ?_) ?_
                        · intro vs W hT
                          have tg : vs 4 = .bool false := hT 4 (by decide)
                          simp only [Rg.putsD, List.getD_cons_zero, List.getD_cons_succ, Act.put, List.setIfInBounds_toArray, List.set_cons_zero, List.set_cons_succ, tg]
                          rfl
                        · intro vs W n hn hI hG hT hF K hK
                          simp only [Rg.putsD, List.getD_cons_zero, List.getD_cons_succ, Act.put, List.setIfInBounds_toArray, List.set_cons_zero, List.set_cons_succ] at hK ⊢
                          clear hn
                          clear hF hI
                          have t0 : vs 0 = .int .i64 cn := hT 0 (by decide)
                          have t1 : vs 1 = .pointer (some ⟨gx, 3, none⟩) := hT 1 (by decide)
                          have t2 : vs 2 = .int .i64 feed := hT 2 (by decide)
                          have t3 : vs 3 = .bool false := hT 3 (by decide)
                          have t4 : vs 4 = .bool false := hT 4 (by decide)
                          have t5 : vs 5 = .pointer (some ⟨gx, 4, none⟩) := hT 5 (by decide)
                          obtain ⟨d0, d1, d2, d3, d4⟩ := blk5 (blk_below hG H5.out.2.1)
                          have l8 := lt_of_blk (blk_below hG H5.out.2.1)
                          simp only [t0, t1, t2, t3, t4, t5] at hK
                          have H := Lib.hid hK
                          clear hK hT
                          go_simp
                          exact H.out _ _ (Below.refl _ _) rfl (fun h => by cases h) trivial
                        refine Rg.cons 7 8 rfl (Rg.guarded ?_ ?_) ?_
                        · intro vs W hT
                          have tg : vs 4 = .bool false := hT 4 (by decide)
                          simp only [Rg.putsD, List.getD_cons_zero, List.getD_cons_succ, Act.put, List.setIfInBounds_toArray, List.set_cons_zero, List.set_cons_succ, tg]
                          rfl
                        · intro vs W n hn hI hG hT hF K hK
                          simp only [Rg.putsD, List.getD_cons_zero, List.getD_cons_succ, Act.put, List.setIfInBounds_toArray, List.set_cons_zero, List.set_cons_succ] at hK ⊢
                          clear hn
                          clear hF hI
                          have t0 : vs 0 = .int .i64 cn := hT 0 (by decide)
                          have t1 : vs 1 = .pointer (some ⟨gx, 3, none⟩) := hT 1 (by decide)
                          have t2 : vs 2 = .int .i64 feed := hT 2 (by decide)
                          have t3 : vs 3 = .bool false := hT 3 (by decide)
                          have t4 : vs 4 = .bool false := hT 4 (by decide)
                          have hbw := H5.out.1.1.bel.then_below ((Below.refl _ _).drew.then_below hG (Nat.le_refl _)) H5.out.1.1.bel.size
                          have c0 := cell_of_blk (blk_below hbw HX.out.2.2) 0
                          simp at c0
                          have l8 : w.heap.size < W.heap.size := Nat.lt_of_lt_of_le l0 hbw.size
                          simp only [t0, t1, t2, t3, t4] at hK
                          have H := Lib.hid hK
                          clear hK hT
                          go_simp
                          exact H.out _ _ (Below.refl _ _) rfl (fun h => by cases h) trivial
                        refine Rg.cons 8 9 rfl (Rg.guarded ?_ ?_) ?_
                        · intro vs W hT
                          have tg : vs 4 = .bool false := hT 4 (by decide)
                          simp only [Rg.putsD, List.getD_cons_zero, List.getD_cons_succ, Act.put, List.setIfInBounds_toArray, List.set_cons_zero, List.set_cons_succ, tg]
                          rfl
                        · intro vs W n hn hI hG hT hF K hK
                          simp only [Rg.putsD, List.getD_cons_zero, List.getD_cons_succ, Act.put, List.setIfInBounds_toArray, List.set_cons_zero, List.set_cons_succ] at hK ⊢
                          clear hn
                          clear hF hI
                          have t0 : vs 0 = .int .i64 cn := hT 0 (by decide)
                          have t1 : vs 1 = .pointer (some ⟨gx, 3, none⟩) := hT 1 (by decide)
                          have t2 : vs 2 = .int .i64 feed := hT 2 (by decide)
                          have t3 : vs 3 = .bool false := hT 3 (by decide)
                          have t4 : vs 4 = .bool false := hT 4 (by decide)
                          simp only [t0, t1, t2, t3, t4] at hK
                          have H := Lib.hid hK
                          clear hK hT
                          go_simp
                          exact H.out _ _ (Below.refl _ _) rfl (fun h => by cases h) trivial
                        refine Rg.cons 9 10 rfl (Rg.guarded ?_ ?_) ?_
                        · intro vs W hT
                          have tg : vs 4 = .bool false := hT 4 (by decide)
                          simp only [Rg.putsD, List.getD_cons_zero, List.getD_cons_succ, Act.put, List.setIfInBounds_toArray, List.set_cons_zero, List.set_cons_succ, tg]
                          rfl
                        · intro vs W n hn hI hG hT hF K hK
                          simp only [Rg.putsD, List.getD_cons_zero, List.getD_cons_succ, Act.put, List.setIfInBounds_toArray, List.set_cons_zero, List.set_cons_succ] at hK ⊢
                          clear hn
                          clear hF hI
                          have t0 : vs 0 = .int .i64 cn := hT 0 (by decide)
                          have t1 : vs 1 = .pointer (some ⟨gx, 3, none⟩) := hT 1 (by decide)
                          have t2 : vs 2 = .int .i64 feed := hT 2 (by decide)
                          have t3 : vs 3 = .bool false := hT 3 (by decide)
                          have t4 : vs 4 = .bool false := hT 4 (by decide)
                          have t7 : vs 7 = .slice (some ⟨g2, 0, none⟩) ns.length c2 := hT 7 (by decide)
                          have t8 : vs 8 = .int .i64 j := hT 8 (by decide)
                          simp only [t0, t1, t2, t3, t4, t7, t8] at hK
                          have H := Lib.hid hK
                          clear hK hT
                          go_simp
                          exact H.out _ _ (Below.refl _ _) rfl (fun h => by cases h) trivial
                        refine Rg.cons 10 11 rfl (Rg.guarded ?_ ?_) ?_
                        · intro vs W hT
                          have tg : vs 4 = .bool false := hT 4 (by decide)
                          simp only [Rg.putsD, List.getD_cons_zero, List.getD_cons_succ, Act.put, List.setIfInBounds_toArray, List.set_cons_zero, List.set_cons_succ, tg]
                          rfl
                        · intro vs W n hn hI hG hT hF K hK
                          simp only [Rg.putsD, List.getD_cons_zero, List.getD_cons_succ, Act.put, List.setIfInBounds_toArray, List.set_cons_zero, List.set_cons_succ] at hK ⊢
                          clear hn
                          clear hF hI
                          have t0 : vs 0 = .int .i64 cn := hT 0 (by decide)
                          have t1 : vs 1 = .pointer (some ⟨gx, 3, none⟩) := hT 1 (by decide)
                          have t2 : vs 2 = .int .i64 feed := hT 2 (by decide)
                          have t3 : vs 3 = .bool false := hT 3 (by decide)
                          have t4 : vs 4 = .bool false := hT 4 (by decide)
                          have t7 : vs 7 = .slice (some ⟨g2, 0, none⟩) ns.length c2 := hT 7 (by decide)
                          have t8 : vs 8 = .int .i64 j := hT 8 (by decide)
                          have t9 : vs 9 = .pointer (some ⟨g2, j * 2, none⟩) := hT 9 (by decide)
                          simp only [t0, t1, t2, t3, t4, t7, t8, t9] at hK
                          have H := Lib.hid hK
                          clear hK hT
                          go_simp
                          exact H.out _ _ (Below.refl _ _) rfl (fun h => by cases h) trivial
                        refine Rg.cons 11 12 rfl (Rg.guarded ?_ ?_) ?_
                        · intro vs W hT
                          have tg : vs 4 = .bool false := hT 4 (by decide)
                          simp only [Rg.putsD, List.getD_cons_zero, List.getD_cons_succ, Act.put, List.setIfInBounds_toArray, List.set_cons_zero, List.set_cons_succ, tg]
                          rfl
                        · intro vs W n hn hI hG hT hF K hK
                          simp only [Rg.putsD, List.getD_cons_zero, List.getD_cons_succ, Act.put, List.setIfInBounds_toArray, List.set_cons_zero, List.set_cons_succ] at hK ⊢
                          clear hn
                          clear hF hI
                          have t0 : vs 0 = .int .i64 cn := hT 0 (by decide)
                          have t1 : vs 1 = .pointer (some ⟨gx, 3, none⟩) := hT 1 (by decide)
                          have t2 : vs 2 = .int .i64 feed := hT 2 (by decide)
                          have t3 : vs 3 = .bool false := hT 3 (by decide)
                          have t4 : vs 4 = .bool false := hT 4 (by decide)
                          have t7 : vs 7 = .slice (some ⟨g2, 0, none⟩) ns.length c2 := hT 7 (by decide)
                          have t8 : vs 8 = .int .i64 j := hT 8 (by decide)
                          have t9 : vs 9 = .pointer (some ⟨g2, j * 2, none⟩) := hT 9 (by decide)
                          have t10 : vs 10 = .pointer (some ⟨g2, j * 2, none⟩) := hT 10 (by decide)
                          have hbw := HX.out.2.1.trans ((H5.out.1.1.bel.then_below ((Below.refl _ _).drew.then_below hG (Nat.le_refl _)) H5.out.1.1.bel.size).mono HX.out.2.1.size)
                          have c0 := (hbw.cell (p := ⟨g2, j * 2, none⟩) hg2).trans n0
                          have l8 : g2 < W.heap.size := Nat.lt_of_lt_of_le hg2 hbw.size
                          simp only [t0, t1, t2, t3, t4, t7, t8, t9, t10] at hK
                          have H := Lib.hid hK
                          clear hK hT
                          go_simp
                          exact H.out _ _ (Below.refl _ _) rfl (fun h => by cases h) trivial
                        exact Rg.nil
                      · intro vs W hG hI hT hF
                        have t0 : vs 0 = .int .i64 cn := hT 0 (by decide)
                        have t1 : vs 1 = .pointer (some ⟨gx, 3, none⟩) := hT 1 (by decide)
                        have t2 : vs 2 = .int .i64 feed := hT 2 (by decide)
                        have t3 : vs 3 = .bool false := hT 3 (by decide)
                        have t4 : vs 4 = .bool false := hT 4 (by decide)
                        have t5 : vs 5 = .pointer (some ⟨gx, 4, none⟩) := hT 5 (by decide)
                        have t6 : vs 6 = .slice A4 can.length c4 := hT 6 (by decide)
                        have t7 : vs 7 = .slice (some ⟨g2, 0, none⟩) ns.length c2 := hT 7 (by decide)
                        have t8 : vs 8 = .int .i64 j := hT 8 (by decide)
                        have t9 : vs 9 = .pointer (some ⟨g2, j * 2, none⟩) := hT 9 (by decide)
                        have t10 : vs 10 = .pointer (some ⟨g2, j * 2, none⟩) := hT 10 (by decide)
                        have t11 : vs 11 = .string part := hT 11 (by decide)
                        simp only [List.length_cons, List.length_nil, Nat.reduceAdd, List.range, List.range.loop, List.drop_succ_cons, List.drop_zero, Rg.putsD, List.getD_cons_zero, List.getD_cons_succ, Act.put, List.setIfInBounds_toArray, List.set_cons_zero, List.set_cons_succ, t0, t1, t2, t3, t4, t5, t6, t7, t8, t9, t10, t11]
                        clear hT t0 t1 t2 t3 t4 t5 t6 t7 t8 t9 t10 t11
                        have hGW := (Below.refl wr.heap.size wr).drew.then_below hG (Nat.le_refl _)
                        have H6 : Hid (FM wx go gp ns P W) := H5.out.1.below hGW
                        have CPW := Lib.hid (CP.out W (H5.out.2.2.below hGW))
                        clear hF hI hG H5 CP n0 n1 hGW
                        go_wp2_with fail
                        refine CPW.out.mono ?_
                        rintro e w7 ⟨rfl, rfl⟩
                        go_wp2_with fail
                        go_meet
                        exact ⟨by rw [HD.out], H6⟩
                  case rest =>
                    obtain ⟨rfl, H6⟩ := hcut
                    clear H5 HKC
                    cases okc
                    · have HQ2 : Hid (qk ms (ldL ms ns P) part many (k + 1) = qk ms (ldL ms ns P) part many k) := HQK.out.trans (if_neg (by simp))
                      clear HQK
                      go_wp2_with fail
                      go_roundw
                      case rel => exact ⟨k + 1, b, l, by omega, by go_num, rfl, rfl, by rw [HQ2.out]; exact HBL.out, H6.out⟩
                      case measure => simp [intOf] <;> omega
                    · have lp := lt_of_blk H6.out.1.row
                      have fp := frozen_of_blk H6.out.1.row j
                      have cp := H6.out.1.at_ (k := j) hjP
                      have H7 : Hid (FM wx go gp ns (P.set j (k : Int)) (wc.setCell ⟨gp, j, none⟩ (.int .i64 k))) := H6.out.set hgg j k
                      clear H6
                      go_upto_region 25 with (fail)
                      generalize wc.setCell ⟨gp, j, none⟩ (.int .i64 k) = w7 at *
                      clear lp fp cp
                      have hb7 := H7.out.1.bel
                      have c0 := cell_of_blk (blk_below hb7 HX.out.2.2) 0
                      simp at c0
                      have l7 : w.heap.size < w7.heap.size := Nat.lt_of_lt_of_le l0 hb7.size
                      have hPs : (P.set j (k : Int)).length = ns.length := by rw [List.length_set]; exact hPl
                      have CC7 := Lib.hid (CC.out w7 (HX.out.2.1.trans (hb7.mono HX.out.2.1.size)) (P.set j (k : Int)) (.slice (some ⟨gp, 0, none⟩) ns.length ns.length) hPs (readsN_own' (own_of_blk (base := 0) H7.out.1.row (Nat.zero_le _) hPs (by omega)) hPs.symm))
                      clear hb7 hPs
                      go_wp2_with fail
                      refine CC7.out.mono ?_
                      rintro e w8 ⟨v, rfl, hown, b8⟩
                      obtain ⟨gv, cv, rfl, hgv, hcv⟩ := HCA.out w8 v _ hown
                      have H8 : Hid (FM wx go gp ns (P.set j (k : Int)) w8) := H7.out.below b8
                      clear H7 CC7 HCA b8 hown c0 l7
                      go_upto_region 26 with (fail)
                      clear hcv hgv
                      generalize qk ms (ldL ms ns P) part many k = qq at *
                      obtain ⟨q1, q2⟩ := qq
                      dsimp only at HQK HBL
                      have hccM : cc < MX := by unfold MX; omega
                      go_cut [96] (fun v wc => v = .bool (decide (cc < q2)) ∧ Hid (FM wx go gp ns (P.set j (k : Int)) wc))
                      case first =>
                        by_cases hq : q2 < MX
                        · have hBL2 : (b, l) = ((q1 : Int), q2) := HBL.out.trans (if_pos hq)
                          obtain ⟨hb, hl⟩ := Prod.mk.inj hBL2
                          have hb0 : ¬ b < 0 := by omega
                          clear hBL2 hb
                          subst hl
                          go_wp2_with fail
                          go_meet
                          exact ⟨rfl, H8⟩
                        · have hBL2 : (b, l) = (-1, 0) := HBL.out.trans (if_neg hq)
                          obtain ⟨hb, hl⟩ := Prod.mk.inj hBL2
                          have HD : Hid (decide (cc < q2) = true) := decide_eq_true (by omega)
                          clear hBL2
                          subst hb
                          subst hl
                          go_wp2_with fail
                          go_meet
                          exact ⟨by rw [HD.out], H8⟩
                      case rest =>
                        obtain ⟨rfl, H9⟩ := hcut
                        clear H8
                        have lp := lt_of_blk H9.out.1.row
                        have fp := frozen_of_blk H9.out.1.row j
                        have cp := H9.out.1.at_ (k := j) (by rw [List.length_set]; exact hjP)
                        have H10 : Hid (FM wx go gp ns P (wc.setCell ⟨gp, j, none⟩ (.int .i64 (-1)))) := by
                          have h := H9.out.set hgg j (-1)
                          rw [List.set_set, HBK.out] at h
                          exact h
                        clear H9
                        by_cases hu : cc < q2
                        · have HQ2 : Hid (((k : Int), cc) = rfB (qk ms (ldL ms ns P) part many (k + 1))) := by
                            show _ = _
                            rw [HQK.out, if_pos ⟨by trivial, hu⟩]
                            unfold rfB
                            rw [if_pos hccM]
                          have hd : decide (cc < q2) = true := decide_eq_true hu
                          rw [hd]
                          clear HQK HBL hd hu
                          go_wp2_with fail
                          go_roundw
                          case rel => exact ⟨k + 1, (k : Int), cc, by omega, by go_num, rfl, rfl, HQ2.out, H10.out⟩
                          case measure => simp [intOf] <;> omega
                        · have HQ2 : Hid ((b, l) = rfB (qk ms (ldL ms ns P) part many (k + 1))) := by
                            show _ = _
                            rw [HQK.out, if_neg (fun h => hu h.2)]
                            exact HBL.out
                          have hd : decide (cc < q2) = false := decide_eq_false hu
                          rw [hd]
                          clear HQK HBL hd hu
                          go_wp2_with fail
                          go_roundw
                          case rel => exact ⟨k + 1, b, l, by omega, by go_num, rfl, rfl, HQ2.out, H10.out⟩
                          case measure => simp [intOf] <;> omega
            · obtain rfl : k = ms.length := by omega
              have i4 : ¬ (ms.length : Int) < (ms.length : Int) := by omega
              have hBL := HK.out.1
              rw [← HFS.out] at hBL
              have HQ : Hid (FM wx go gp ns P wr) := HK.out.2
              clear HK HFS
              by_cases hq : (fpS ms ns j P).2 < MX
              · have hBL2 : (b, l) = (((fpS ms ns j P).1 : Int), (fpS ms ns j P).2) := hBL.trans (if_pos hq)
                have hb := (Prod.mk.inj hBL2).1
                have HFN := Lib.hid (HSTEP.out (HV.out.trans (if_pos hq)))
                generalize (fpS ms ns j P).1 = q at *
                have hb0 : ¬ b < 0 := by omega
                have lp := lt_of_blk HQ.out.1.row
                have fp := frozen_of_blk HQ.out.1.row j
                have cp := HQ.out.1.at_ (k := j) hjP
                have H5 : Hid (FM wx go gp ns (P.set j (q : Int)) (wr.setCell ⟨gp, j, none⟩ (.int .i64 b))) := by
                  rw [hb]
                  exact HQ.out.set hgg j q
                clear HQ hBL hBL2 HSTEP HV hb
                go_wp2_with fail
                go_roundw
                case rel => exact ⟨t + 1, P.set j (q : Int), by omega, by go_num, by rw [List.length_set]; exact hPl, HFN.out, H5.out⟩
                case measure => simp [intOf] <;> omega
              · have hBL2 : (b, l) = (-1, 0) := hBL.trans (if_neg hq)
                have hb := (Prod.mk.inj hBL2).1
                have HNO : Hid (fpF ms ns = false ∧ fpP ms ns = []) := by
                  have h : fpV ms ns = none := HV.out.trans (if_neg hq)
                  exact ⟨by unfold fpF; rw [h]; rfl, by unfold fpP; rw [h]; rfl⟩
                have HB : Hid (Below w.heap.size w wr) := HX.out.2.1.trans (HQ.out.1.bel.mono HX.out.2.1.size)
                subst hb
                clear hBL hBL2
                go_wp2_with fail
                refine bodyPost_ret (v := .tuple #[.slice none 0 0, .bool false]) (by unfold results; simp only [Tryz.results15]; go_simp) rfl ⟨.slice none 0 0, by rw [HNO.out.1], by rw [HNO.out.2]; exact nil_readsN _, HB.out⟩
        · obtain rfl : t = ns.length := by omega
          have hla := HS.out.1
          rw [← ordN_len ns] at hla
          have HLa := Lib.hid hla.last
          clear hla
          have i1 : ¬ (ns.length : Int) < (ns.length : Int) := by omega
          have HQ : Hid (FM wx go gp ns P wr) := HS.out.2
          have HB : Hid (Below w.heap.size w wr) := HX.out.2.1.trans (HQ.out.1.bel.mono HX.out.2.1.size)
          clear HS
          go_wp2_with fail
          refine bodyPost_ret (v := .tuple #[.slice (some ⟨gp, 0, none⟩) ns.length ns.length, .bool true]) (by unfold results; simp only [Tryz.results15]; go_simp) rfl ⟨.slice (some ⟨gp, 0, none⟩) ns.length ns.length, ?_, ?_, HB.out⟩
          · unfold fpF
            rw [HLa.out.2]
            rfl
          · unfold fpP
            rw [HLa.out.2]
            exact readsN_own' (own_of_blk (base := 0) HQ.out.1.row (Nat.zero_le _) hPl (by omega)) hPl.symm
end Go.Proofs.YtopoemfnnnfgdaaGreatDoor
