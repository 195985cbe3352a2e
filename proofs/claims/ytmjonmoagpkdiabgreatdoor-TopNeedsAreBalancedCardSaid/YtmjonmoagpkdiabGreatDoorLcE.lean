/-
  The loads of machines; the check of a plan.
-/
import Derived.Test.YtmjonmoagpkdiabGreatDoorLcD
namespace Go.Proofs.YtmjonmoagpkdiabGreatDoor
open Go.RowKit
set_option linter.unusedSimpArgs false
set_option linter.unusedVariables false

theorem load_info : (Tryz.prog.info? 59).map (fun i => (i.zero, i.size, i.bytes)) = some (some (.agg #[.int .i64 0, .int .i64 0]), 2, 16) := by kernel_rfl
theorem run_makeLoads (n : Nat) (hn : n ≤ 1000000) (W : World) : (Instr.makeSlice 56 (.int .i64 n) (.int .i64 n)).run Tryz.prog W = .ok (.slice (some ⟨W.heap.size, 0, none⟩) n n) (W.alloc (.cells (List.replicate (n * 2) (Value.int .i64 0)).toArray 59)) := by
  obtain ⟨i0, hi, hz0, hz1, hz2⟩ := info_parts load_info
  have h := run_make (P := Tryz.prog) W 56 59 i0 _ Tryz.underlying56 hi hz0 .i64 .i64 n n (by omega) (by omega) (by rw [hz2]; omega) (by omega)
  rw [h, hz1]
  have e : madeCells (Value.agg #[.int .i64 0, .int .i64 0]).cells ((n : Int).toNat * 2) = (List.replicate (n * 2) (Value.int .i64 0)).toArray := by
    apply Array.ext
    · simp [madeCells]
    · intro j h1 h2
      have h3 : j % 2 = 0 ∨ j % 2 = 1 := by omega
      simp only [madeCells, Value.cells]
      rcases h3 with h3 | h3 <;> simp [h3]
  rw [e]
  simp

def ld0 (ms : List Mc) (k : Nat) : List (Int × Int) := ms.mapIdx fun j m => if j < k then (m.fixed, (0 : Int)) else (0, 0)
theorem ld0_len (ms : List Mc) (k : Nat) : (ld0 ms k).length = ms.length := by unfold ld0; rw [List.length_mapIdx]
theorem ld0_at (ms : List Mc) (k : Nat) {j : Nat} (h : j < ms.length) : (ld0 ms k)[j]'(by rw [ld0_len]; exact h) = if j < k then (ms[j].fixed, (0 : Int)) else (0, 0) := by
  unfold ld0
  rw [List.getElem_mapIdx]
theorem ld0_zero (ms : List Mc) : ld0 ms 0 = List.replicate ms.length (0, 0) := by
  refine List.ext_getElem (by rw [ld0_len, List.length_replicate]) fun j h1 h2 => ?_
  rw [ld0_len] at h1
  rw [ld0_at _ _ h1, List.getElem_replicate, if_neg (by omega)]
theorem ld0_step (ms : List Mc) {k : Nat} (hk : k < ms.length) : ld0 ms (k + 1) = (ld0 ms k).set k (ms[k].fixed, ((ld0 ms k).getD k (0, 0)).2) := by
  have h2 : ((ld0 ms k).getD k (0, 0)).2 = 0 := by
    rw [List.getD_eq_getElem?_getD, List.getElem?_eq_getElem (by rw [ld0_len]; exact hk), Option.getD_some, ld0_at _ _ hk, if_neg (by omega)]
  rw [h2]
  refine List.ext_getElem (by rw [List.length_set, ld0_len, ld0_len]) fun j h1 _ => ?_
  rw [ld0_len] at h1
  rw [List.getElem_set, ld0_at _ _ h1, ld0_at _ _ h1]
  by_cases e : k = j
  · subst e
    rw [if_pos (by omega), if_pos rfl]
  · rw [if_neg e]
    by_cases h : j < k
    · rw [if_pos h, if_pos (by omega)]
    · rw [if_neg h, if_neg (by omega)]
theorem ld0_done (ms : List Mc) (ns : List Nd) (plan : List Int) : ld0 ms ms.length = ldL ms ns (plan.take 0) := by
  refine List.ext_getElem (by rw [ld0_len, ldL_len]) fun j h1 _ => ?_
  rw [ld0_len] at h1
  rw [ld0_at _ _ h1, ldL_at _ _ _ h1, if_pos h1]
  unfold cyOf
  rw [List.take_zero, cyS]
  · simp
  · simp

theorem count_le (plan : List Int) (t : Nat) (x : Int) : (((plan.take t).count x : Nat) : Int) ≤ (t : Int) := by
  have h1 := List.count_le_length (a := x) (l := plan.take t)
  rw [List.length_take] at h1
  omega

set_option maxRecDepth 100000 in
set_option maxHeartbeats 8000000 in
theorem loads_any {base : Nat} (ms : List Mc) (ns : List Nd) (plan : List Int) (hm : MsOk ms) (hn : NsOk ns) (hi : Idx ms plan) (hl : plan.length ≤ ns.length) {v1 v2 v3 : Value} {w : World} (h1 : MsF base v1 ms w) (h2 : Reads encD v2 ns w) (h3 : Reads encN v3 plan w) :
    Calls Tryz.prog 17 #[v1, v2, v3] w fun e w' => ∃ gb : Nat, e = .returned (.slice (some ⟨gb, 0, none⟩) ms.length ms.length) ∧ LS w gb (ldL ms ns plan) w' := by
  have HR := Lib.hid (And.intro h1 (And.intro h2 h3))
  have HM := Lib.hid hm
  have HN := Lib.hid hn
  have HI := Lib.hid hi
  have hmf := hm.few
  have hms := hm.some
  have hnf := hn.few
  obtain ⟨A1, c1, rfl, hc1, _⟩ := h1
  obtain ⟨A2, c2, rfl, _⟩ := h2
  obtain ⟨A3, c3, rfl, _⟩ := h3
  have hmk := run_makeLoads ms.length (by omega)
  have H0 : Hid (LS w w.heap.size (ld0 ms 0) (w.alloc (.cells (Array.replicate (ms.length * 2) (Value.int .i64 0)) 59))) := by
    rw [← List.toArray_replicate]
    exact ⟨(Below.refl _ _).alloc (Nat.le_refl _) _, Nat.le_refl _, by rw [ld0_zero, flatL_zero]; exact blk_new w _ rfl⟩
  clear hm hn hi
  go_enter Tryz.func17, Tryz.ntmps17
  go_upto_region 2 with (fail)
  generalize w.alloc (.cells (Array.replicate (ms.length * 2) (Value.int .i64 0)) 59) = w0 at *
  obtain ⟨gb, hgb⟩ : ∃ gb, w.heap.size = gb := ⟨_, rfl⟩
  rw [hgb] at H0 ⊢
  have HGB := Lib.hid hgb
  clear hgb hmk
  go_wp2_with fail
  go_loopw [17] (fun kk wr => ∃ k : Nat, k ≤ ms.length ∧ kk = .int .i64 k ∧ Hid (LS w gb (ld0 ms k) wr)) (fun kk _ => ms.length - (intOf kk).toNat)
  case atStart => exact ⟨0, by omega, rfl, H0⟩
  case round =>
    clear H0
    obtain ⟨k, hk, rfl, HS⟩ := hrel
    by_cases hlt : k < ms.length
    · obtain ⟨A', c', e, _, hr⟩ := HR.out.1.below HS.out.bel
      cases e
      rcases hr with rfl | ⟨g, rfl, hgl, hrow⟩
      · simp at hlt
      obtain ⟨q0, q1, q2, q3, u, q4, A4, c4, rfl, _⟩ := hrow k hlt
      have HST := Lib.hid (ld0_step ms hlt)
      clear hrow
      generalize ms[k] = m at *
      obtain ⟨key, each, fixed, feed, can⟩ := m
      dsimp only at q0 q1 q2 q3 q4 HST
      have i1 : (0 : Int) ≤ (k : Int) := by omega
      have i2 : (k : Int) < (ms.length : Int) := by omega
      have hLk : k < (ld0 ms k).length := by rw [ld0_len]; exact hlt
      have HX : Hid (LS w gb (ld0 ms k) (wr.alloc (.cells #[.string key, .int .i64 each, .int .i64 fixed, .int .i64 feed, .slice A4 can.length c4] 38)) ∧ (wr.alloc (.cells #[.string key, .int .i64 each, .int .i64 fixed, .int .i64 feed, .slice A4 can.length c4] 38)).heap[wr.heap.size]? = some (.cells #[.string key, .int .i64 each, .int .i64 fixed, .int .i64 feed, .slice A4 can.length c4] 38 (0, 0))) := ⟨HS.out.then_ ((Below.refl _ _).alloc (Nat.le_refl _) _), blk_new wr _ rfl⟩
      go_upto_region 5 with (fail)
      generalize wr.alloc (.cells #[.string key, .int .i64 each, .int .i64 fixed, .int .i64 feed, .slice A4 can.length c4] 38) = wx at *
      obtain ⟨_, _, p2, _, _⟩ := blk5 HX.out.2
      have pl := lt_of_blk HX.out.2
      have pg := lt_of_blk HX.out.1.row
      obtain ⟨r0, _⟩ := HX.out.1.at_ hLk
      have f0 := HX.out.1.fr (k * 2)
      have H2 : Hid (LS w gb (ld0 ms (k + 1)) (wx.setCell ⟨gb, k * 2, none⟩ (.int .i64 fixed))) := by rw [HST.out]; exact HX.out.1.set0 hLk fixed
      generalize wr.heap.size = gx at *
      clear q0 q1 q2 q3 q4 HX HS
      go_wp2_with fail
      go_roundw
      case rel => exact ⟨k + 1, by omega, by go_num, H2⟩
      case measure => simp [intOf]; omega
    · obtain rfl : k = ms.length := by omega
      have HS0 : Hid (LS w gb (ldL ms ns (plan.take 0)) wr) := by rw [← ld0_done ms ns plan]; exact HS.out
      clear HS
      go_wp2_with fail
      go_loopw [31] (fun kk wr => ∃ t : Nat, t ≤ plan.length ∧ kk = .int .i64 t ∧ Hid (LS w gb (ldL ms ns (plan.take t)) wr)) (fun kk _ => plan.length - (intOf kk).toNat)
      case atStart => exact ⟨0, by omega, rfl, HS0⟩
      case round =>
        clear HS0
        obtain ⟨t, ht, rfl, HS⟩ := hrel
        by_cases htl : t < plan.length
        · have hnt : t < ns.length := by omega
          obtain ⟨hp0, hp1⟩ := HI.out plan[t] (List.getElem_mem htl)
          obtain ⟨p, hp⟩ := Int.eq_ofNat_of_zero_le hp0
          have hpm : p < ms.length := by omega
          obtain ⟨A5, c5, e, hr3⟩ := HR.out.2.2.below HS.out.bel
          cases e
          rcases hr3 with rfl | ⟨g3, rfl, hrow3⟩
          · simp at htl
          have d0 := row_n hrow3 htl
          have hg3 := hrow3.1
          rw [hp] at d0
          obtain ⟨A6, c6, e, hr2⟩ := HR.out.2.1.below HS.out.bel
          cases e
          rcases hr2 with rfl | ⟨g2, rfl, hrow2⟩
          · simp at hnt
          obtain ⟨n0, n1⟩ := row_d hrow2 hnt
          have hg2 := hrow2.1
          obtain ⟨A7, c7, e, _, hr1⟩ := HR.out.1.below HS.out.bel
          cases e
          rcases hr1 with rfl | ⟨g1, rfl, hg1, hrow1⟩
          · simp at hpm
          obtain ⟨q0, q1, q2, q3, u, q4, A4, c4, rfl, _⟩ := hrow1 p hpm
          have HST := Lib.hid (ldL_step (ms := ms) htl hnt hp hpm)
          have hLp : p < (ldL ms ns (plan.take t)).length := by rw [ldL_len]; exact hpm
          obtain ⟨l0, l1⟩ := HS.out.at_ hLp
          rw [ldL_at _ _ _ hpm] at l0 l1
          dsimp only at l0 l1
          have hcy := cyOf_bound (HM.out.ok _ (List.getElem_mem hpm)) p (plan.take t) HN.out
          have hpa := count_le plan t (p : Int)
          have hpa0 : (0 : Int) ≤ ((plan.take t).count (p : Int) : Int) := by omega
          have hea := (HM.out.ok _ (List.getElem_mem hpm)).each
          have hma := HN.out.many _ (List.getElem_mem hnt)
          have hgb := lt_of_blk HS.out.row
          clear hrow1 hrow2 hrow3 hp0 hp1
          generalize cyOf ms[p] p (plan.take t) ns = cy at *
          generalize ((plan.take t).count (p : Int) : Int) = pa at *
          generalize ms[p] = m at *
          generalize ns[t] = nd at *
          obtain ⟨key, each, fixed, feed, can⟩ := m
          obtain ⟨part, many⟩ := nd
          dsimp only at q0 q1 q2 q3 q4 HST n0 n1 hea hma
          have CW := Lib.hid (fun W => with_any cy pa key each fixed feed (.slice A4 can.length c4) part many W (by omega) (by omega) hea (by omega))
          have i1 : (0 : Int) ≤ (t : Int) := by omega
          have i2 : (t : Int) < (plan.length : Int) := by omega
          have i3 : (0 : Int) ≤ (p : Int) := by omega
          have i4 : (p : Int) < (ms.length : Int) := by omega
          have i5 : (t : Int) < (ns.length : Int) := by omega
          have HP9 := Lib.hid hp
          clear hp hcy hpa hpa0 hea hma
          generalize hX : cy + each * many = X at *
          generalize hY : pa + 1 = Y at *
          have hzx := HS.out.bel.size
          clear hX hY
          go_upto_region 10 with (fail)
          refine Rg.rgL (fun a b => Below a.heap.size a b)
            [(fun vs u => vs 0 = .slice (some ⟨gb, 0, none⟩) ms.length ms.length), (fun vs u => vs 1 = .int .i64 p), (fun vs u => vs 2 = .slice (some ⟨gb, 0, none⟩) ms.length ms.length), (fun vs u => vs 3 = .int .i64 p), (fun vs u => vs 4 = .pointer (some ⟨gb, p * 2, none⟩)), (fun vs u => vs 5 = .agg #[.int .i64 cy, .int .i64 pa]), (fun vs u => vs 6 = .slice (some ⟨g1, 0, none⟩) ms.length c1), (fun vs u => vs 7 = .int .i64 p), (fun vs u => vs 8 = .pointer (some ⟨g1, p * 5, none⟩)), (fun vs u => vs 9 = .agg #[.string key, .int .i64 each, .int .i64 fixed, .int .i64 feed, .slice A4 can.length c4]), (fun vs u => vs 10 = .slice (some ⟨g2, 0, none⟩) ns.length c2), (fun vs u => vs 11 = .int .i64 t), (fun vs u => vs 12 = .pointer (some ⟨g2, t * 2, none⟩)), (fun vs u => vs 13 = .agg #[.string part, .int .i64 many]), (fun vs u => vs 14 = .agg #[.int .i64 X, .int .i64 Y])]
            [[], [], [], [], [2, 3], [2, 3, 4], [], [], [6, 7], [6, 7, 8], [], [], [10, 11], [10, 11, 12], [2, 3, 4, 5, 6, 7, 8, 9, 10, 11, 12, 13]] [some 36, some 37, some 38, some 39, some 40, some 41, some 42, some 43, some 44, some 45, some 46, some 47, some 48, some 49, some 50, some 51, none] [] (fun _ _ => True) [[], [], [], [], [2, 3], [2, 3, 4], [], [], [6, 7], [6, 7, 8], [], [], [10, 11], [10, 11, 12], [2, 3, 4, 5, 6, 7, 8, 9, 10, 11, 12, 13], [0, 1, 2, 3, 4, 5, 6, 7, 8, 9, 10, 11, 12, 13, 14], [0, 1, 2, 3, 4, 5, 6, 7, 8, 9, 10, 11, 12, 13, 14, 15]]
            (by kernel_rfl) (by decide) (by kernel_rfl) (by kernel_rfl) (by kernel_rfl) (by kernel_rfl) (by kernel_rfl) (fun _ => Below.refl _ _) (fun _ _ _ h k => h.ext k) (fun _ _ h => h.size) ?_ trivial ?_ ?_
          · intro t ht vs w w' h hE
            simp only [List.mem_cons, List.not_mem_nil, or_false] at ht
            rcases ht with rfl | rfl | rfl | rfl | rfl | rfl | rfl | rfl | rfl | rfl | rfl | rfl | rfl | rfl | rfl
            · exact h
            · exact h
            · exact h
            · exact h
            · exact h
            · exact h
            · exact h
            · exact h
            · exact h
            · exact h
            · exact h
            · exact h
            · exact h
            · exact h
            · exact h
          ·
            refine Rg.cons 0 1 rfl (Rg.plain rfl ?_) ?_
            · intro vs W n hn hI hG hT hF K hK
              simp only [Rg.putsD, List.getD_cons_zero, List.getD_cons_succ, Act.put, List.setIfInBounds_toArray, List.set_cons_zero, List.set_cons_succ] at hK ⊢
              clear hn
              clear hF hI
              have H := Lib.hid hK
              clear hK hT
              go_simp
              exact H.out _ _ (Below.refl _ _) rfl (fun h => by cases h) trivial
            refine Rg.cons 1 2 rfl (Rg.plain rfl ?_) ?_
            · intro vs W n hn hI hG hT hF K hK
              simp only [Rg.putsD, List.getD_cons_zero, List.getD_cons_succ, Act.put, List.setIfInBounds_toArray, List.set_cons_zero, List.set_cons_succ] at hK ⊢
              clear hn
              clear hF hI
              have H := Lib.hid hK
              clear hK hT
              go_simp
              exact H.out _ _ (Below.refl _ _) rfl (fun h => by cases h) trivial
            refine Rg.cons 2 3 rfl (Rg.plain rfl ?_) ?_
            · intro vs W n hn hI hG hT hF K hK
              simp only [Rg.putsD, List.getD_cons_zero, List.getD_cons_succ, Act.put, List.setIfInBounds_toArray, List.set_cons_zero, List.set_cons_succ] at hK ⊢
              clear hn
              clear hF hI
              have H := Lib.hid hK
              clear hK hT
              go_simp
              exact H.out _ _ (Below.refl _ _) rfl (fun h => by cases h) trivial
            refine Rg.cons 3 4 rfl (Rg.plain rfl ?_) ?_
            · intro vs W n hn hI hG hT hF K hK
              simp only [Rg.putsD, List.getD_cons_zero, List.getD_cons_succ, Act.put, List.setIfInBounds_toArray, List.set_cons_zero, List.set_cons_succ] at hK ⊢
              clear hn
              clear hF hI
              have H := Lib.hid hK
              clear hK hT
              go_simp
              exact H.out _ _ (Below.refl _ _) rfl (fun h => by cases h) trivial
            refine Rg.cons 4 5 rfl (Rg.plain rfl ?_) ?_
            · intro vs W n hn hI hG hT hF K hK
              simp only [Rg.putsD, List.getD_cons_zero, List.getD_cons_succ, Act.put, List.setIfInBounds_toArray, List.set_cons_zero, List.set_cons_succ] at hK ⊢
              clear hn
              clear hF hI
              have t2 : vs 2 = .slice (some ⟨gb, 0, none⟩) ms.length ms.length := hT 2 (by decide)
              have t3 : vs 3 = .int .i64 p := hT 3 (by decide)
              simp only [t2, t3] at hK
              have H := Lib.hid hK
              clear hK hT
              go_simp
              exact H.out _ _ (Below.refl _ _) rfl (fun h => by cases h) trivial
            refine Rg.cons 5 6 rfl (Rg.plain rfl ?_) ?_
            · intro vs W n hn hI hG hT hF K hK
              simp only [Rg.putsD, List.getD_cons_zero, List.getD_cons_succ, Act.put, List.setIfInBounds_toArray, List.set_cons_zero, List.set_cons_succ] at hK ⊢
              clear hn
              clear hF hI
              have t2 : vs 2 = .slice (some ⟨gb, 0, none⟩) ms.length ms.length := hT 2 (by decide)
              have t3 : vs 3 = .int .i64 p := hT 3 (by decide)
              have t4 : vs 4 = .pointer (some ⟨gb, p * 2, none⟩) := hT 4 (by decide)
              have c0 := (hG.cell (p := ⟨gb, p * 2, none⟩) hgb).trans l0
              have c1 := (hG.cell (p := ⟨gb, p * 2 + 1, none⟩) hgb).trans l1
              simp only [t2, t3, t4] at hK
              have H := Lib.hid hK
              clear hK hT
              go_simp
              exact H.out _ _ (Below.refl _ _) rfl (fun h => by cases h) trivial
            refine Rg.cons 6 7 rfl (Rg.plain rfl ?_) ?_
            · intro vs W n hn hI hG hT hF K hK
              simp only [Rg.putsD, List.getD_cons_zero, List.getD_cons_succ, Act.put, List.setIfInBounds_toArray, List.set_cons_zero, List.set_cons_succ] at hK ⊢
              clear hn
              clear hF hI
              have H := Lib.hid hK
              clear hK hT
              go_simp
              exact H.out _ _ (Below.refl _ _) rfl (fun h => by cases h) trivial
            refine Rg.cons 7 8 rfl (Rg.plain rfl ?_) ?_
            · intro vs W n hn hI hG hT hF K hK
              simp only [Rg.putsD, List.getD_cons_zero, List.getD_cons_succ, Act.put, List.setIfInBounds_toArray, List.set_cons_zero, List.set_cons_succ] at hK ⊢
              clear hn
              clear hF hI
              have H := Lib.hid hK
              clear hK hT
              go_simp
              exact H.out _ _ (Below.refl _ _) rfl (fun h => by cases h) trivial
            refine Rg.cons 8 9 rfl (Rg.plain rfl ?_) ?_
            · intro vs W n hn hI hG hT hF K hK
              simp only [Rg.putsD, List.getD_cons_zero, List.getD_cons_succ, Act.put, List.setIfInBounds_toArray, List.set_cons_zero, List.set_cons_succ] at hK ⊢
              clear hn
              clear hF hI
              have t6 : vs 6 = .slice (some ⟨g1, 0, none⟩) ms.length c1 := hT 6 (by decide)
              have t7 : vs 7 = .int .i64 p := hT 7 (by decide)
              simp only [t6, t7] at hK
              have H := Lib.hid hK
              clear hK hT
              go_simp
              exact H.out _ _ (Below.refl _ _) rfl (fun h => by cases h) trivial
            refine Rg.cons 9 10 rfl (Rg.plain rfl ?_) ?_
            · intro vs W n hn hI hG hT hF K hK
              simp only [Rg.putsD, List.getD_cons_zero, List.getD_cons_succ, Act.put, List.setIfInBounds_toArray, List.set_cons_zero, List.set_cons_succ] at hK ⊢
              clear hn
              clear hF hI
              have t6 : vs 6 = .slice (some ⟨g1, 0, none⟩) ms.length c1 := hT 6 (by decide)
              have t7 : vs 7 = .int .i64 p := hT 7 (by decide)
              have t8 : vs 8 = .pointer (some ⟨g1, p * 5, none⟩) := hT 8 (by decide)
              have c0 := (hG.cell (p := ⟨g1, p * 5, none⟩) hg1).trans q0
              have c1 := (hG.cell (p := ⟨g1, p * 5 + 1, none⟩) hg1).trans q1
              have c2 := (hG.cell (p := ⟨g1, p * 5 + 2, none⟩) hg1).trans q2
              have c3 := (hG.cell (p := ⟨g1, p * 5 + 3, none⟩) hg1).trans q3
              have c4 := (hG.cell (p := ⟨g1, p * 5 + 4, none⟩) hg1).trans q4
              simp only [t6, t7, t8] at hK
              have H := Lib.hid hK
              clear hK hT
              go_simp
              exact H.out _ _ (Below.refl _ _) rfl (fun h => by cases h) trivial
            refine Rg.cons 10 11 rfl (Rg.plain rfl ?_) ?_
            · intro vs W n hn hI hG hT hF K hK
              simp only [Rg.putsD, List.getD_cons_zero, List.getD_cons_succ, Act.put, List.setIfInBounds_toArray, List.set_cons_zero, List.set_cons_succ] at hK ⊢
              clear hn
              clear hF hI
              have H := Lib.hid hK
              clear hK hT
              go_simp
              exact H.out _ _ (Below.refl _ _) rfl (fun h => by cases h) trivial
            refine Rg.cons 11 12 rfl (Rg.plain rfl ?_) ?_
            · intro vs W n hn hI hG hT hF K hK
              simp only [Rg.putsD, List.getD_cons_zero, List.getD_cons_succ, Act.put, List.setIfInBounds_toArray, List.set_cons_zero, List.set_cons_succ] at hK ⊢
              clear hn
              clear hF hI
              have H := Lib.hid hK
              clear hK hT
              go_simp
              exact H.out _ _ (Below.refl _ _) rfl (fun h => by cases h) trivial
            refine Rg.cons 12 13 rfl (Rg.plain rfl ?_) ?_
            · intro vs W n hn hI hG hT hF K hK
              simp only [Rg.putsD, List.getD_cons_zero, List.getD_cons_succ, Act.put, List.setIfInBounds_toArray, List.set_cons_zero, List.set_cons_succ] at hK ⊢
              clear hn
              clear hF hI
              have t10 : vs 10 = .slice (some ⟨g2, 0, none⟩) ns.length c2 := hT 10 (by decide)
              have t11 : vs 11 = .int .i64 t := hT 11 (by decide)
              simp only [t10, t11] at hK
              have H := Lib.hid hK
              clear hK hT
              go_simp
              exact H.out _ _ (Below.refl _ _) rfl (fun h => by cases h) trivial
            refine Rg.cons 13 14 rfl (Rg.plain rfl ?_) ?_
            · intro vs W n hn hI hG hT hF K hK
              simp only [Rg.putsD, List.getD_cons_zero, List.getD_cons_succ, Act.put, List.setIfInBounds_toArray, List.set_cons_zero, List.set_cons_succ] at hK ⊢
              clear hn
              clear hF hI
              have t10 : vs 10 = .slice (some ⟨g2, 0, none⟩) ns.length c2 := hT 10 (by decide)
              have t11 : vs 11 = .int .i64 t := hT 11 (by decide)
              have t12 : vs 12 = .pointer (some ⟨g2, t * 2, none⟩) := hT 12 (by decide)
              have c0 := (hG.cell (p := ⟨g2, t * 2, none⟩) hg2).trans n0
              have c1 := (hG.cell (p := ⟨g2, t * 2 + 1, none⟩) hg2).trans n1
              simp only [t10, t11, t12] at hK
              have H := Lib.hid hK
              clear hK hT
              go_simp
              exact H.out _ _ (Below.refl _ _) rfl (fun h => by cases h) trivial
            refine Rg.cons 14 15 rfl (Rg.plain rfl ?_) ?_
            · intro vs W n hn hI hG hT hF K hK
              simp only [Rg.putsD, List.getD_cons_zero, List.getD_cons_succ, Act.put, List.setIfInBounds_toArray, List.set_cons_zero, List.set_cons_succ] at hK ⊢
              clear hn
              clear hF hI
              have t2 : vs 2 = .slice (some ⟨gb, 0, none⟩) ms.length ms.length := hT 2 (by decide)
              have t3 : vs 3 = .int .i64 p := hT 3 (by decide)
              have t4 : vs 4 = .pointer (some ⟨gb, p * 2, none⟩) := hT 4 (by decide)
              have t5 : vs 5 = .agg #[.int .i64 cy, .int .i64 pa] := hT 5 (by decide)
              have t6 : vs 6 = .slice (some ⟨g1, 0, none⟩) ms.length c1 := hT 6 (by decide)
              have t7 : vs 7 = .int .i64 p := hT 7 (by decide)
              have t8 : vs 8 = .pointer (some ⟨g1, p * 5, none⟩) := hT 8 (by decide)
              have t9 : vs 9 = .agg #[.string key, .int .i64 each, .int .i64 fixed, .int .i64 feed, .slice A4 can.length c4] := hT 9 (by decide)
              have t10 : vs 10 = .slice (some ⟨g2, 0, none⟩) ns.length c2 := hT 10 (by decide)
              have t11 : vs 11 = .int .i64 t := hT 11 (by decide)
              have t12 : vs 12 = .pointer (some ⟨g2, t * 2, none⟩) := hT 12 (by decide)
              have t13 : vs 13 = .agg #[.string part, .int .i64 many] := hT 13 (by decide)
              have HG := Lib.hid hG
              clear hG
              simp only [t2, t3, t4, t5, t6, t7, t8, t9, t10, t11, t12, t13] at hK
              have H := Lib.hid hK
              clear hK hT
              go_simp
              refine (CW.out _).mono ?_
              rintro e w6 ⟨rfl, b6⟩
              exact H.out _ _ b6 rfl (fun h => by cases h) trivial
            exact Rg.nil
          · intro vs W hG hI hT hF
            have t0 : vs 0 = .slice (some ⟨gb, 0, none⟩) ms.length ms.length := hT 0 (by decide)
            have t1 : vs 1 = .int .i64 p := hT 1 (by decide)
            have t2 : vs 2 = .slice (some ⟨gb, 0, none⟩) ms.length ms.length := hT 2 (by decide)
            have t3 : vs 3 = .int .i64 p := hT 3 (by decide)
            have t4 : vs 4 = .pointer (some ⟨gb, p * 2, none⟩) := hT 4 (by decide)
            have t5 : vs 5 = .agg #[.int .i64 cy, .int .i64 pa] := hT 5 (by decide)
            have t6 : vs 6 = .slice (some ⟨g1, 0, none⟩) ms.length c1 := hT 6 (by decide)
            have t7 : vs 7 = .int .i64 p := hT 7 (by decide)
            have t8 : vs 8 = .pointer (some ⟨g1, p * 5, none⟩) := hT 8 (by decide)
            have t9 : vs 9 = .agg #[.string key, .int .i64 each, .int .i64 fixed, .int .i64 feed, .slice A4 can.length c4] := hT 9 (by decide)
            have t10 : vs 10 = .slice (some ⟨g2, 0, none⟩) ns.length c2 := hT 10 (by decide)
            have t11 : vs 11 = .int .i64 t := hT 11 (by decide)
            have t12 : vs 12 = .pointer (some ⟨g2, t * 2, none⟩) := hT 12 (by decide)
            have t13 : vs 13 = .agg #[.string part, .int .i64 many] := hT 13 (by decide)
            have t14 : vs 14 = .agg #[.int .i64 X, .int .i64 Y] := hT 14 (by decide)
            simp only [List.length_cons, List.length_nil, Nat.reduceAdd, List.range, List.range.loop, List.drop_succ_cons, List.drop_zero, Rg.putsD, List.getD_cons_zero, List.getD_cons_succ, Act.put, List.setIfInBounds_toArray, List.set_cons_zero, List.set_cons_succ, t0, t1, t2, t3, t4, t5, t6, t7, t8, t9, t10, t11, t12, t13, t14]
            clear hT t0 t1 t2 t3 t4 t5 t6 t7 t8 t9 t10 t11 t12 t13 t14
            have HX := Lib.hid (HS.out.then_ ((Below.refl _ _).drew.then_below hG (Nat.le_refl _)))
            have f0 := HX.out.fr (p * 2)
            have f1 := HX.out.fr (p * 2 + 1)
            have pg := lt_of_blk HX.out.row
            obtain ⟨l0', l1'⟩ := HX.out.at_ hLp
            have H2 : Hid (LS w gb (ldL ms ns (plan.take (t + 1))) ((W.setCell ⟨gb, p * 2, none⟩ (.int .i64 X)).setCell ⟨gb, p * 2 + 1, none⟩ (.int .i64 Y))) := by rw [HST.out]; exact HX.out.set hLp X Y
            clear hF hI hG l0 l1 q0 q1 q2 q3 q4 n0 n1 d0 HX HS CW
            go_wp2_with fail
            go_roundw
            case rel => exact ⟨t + 1, by omega, by go_num, H2⟩
            case measure => simp [intOf]; omega
        · obtain rfl : t = plan.length := by omega
          have HF : Hid (LS w gb (ldL ms ns plan) wr) := by
            have := HS.out
            rw [List.take_of_length_le (Nat.le_refl _)] at this
            exact this
          go_wp2_with fail
          go_ret
          exact ⟨gb, rfl, HF.out⟩
end Go.Proofs.YtmjonmoagpkdiabGreatDoor
