/-
  The fault of a plan, and the cycles: the reference's; the program's cycles.
-/
import Derived.Test.YtjmjmijjdgolfaaLcF
import Derived.Test.YtjmjmijjdgolfaaLcG
import Derived.Test.YtjmjmijjdgolfaaSeA
namespace Go.Proofs.Ytjmjmijjdgolfaa
open Go.RowKit
set_option linter.unusedSimpArgs false
set_option linter.unusedVariables false

theorem run_makeI (n : Nat) (hn : n ≤ 1000000) (W : World) : (Instr.makeSlice 22 (.int .i64 n) (.int .i64 n)).run Try.prog W = .ok (.slice (some ⟨W.heap.size, 0, none⟩) n n) (W.alloc (.cells (Array.replicate n (.int .i64 0)) 3)) := by
  obtain ⟨i0, hi, hz0, hz1, hz2⟩ := info_parts int_infoN
  have h := run_make (P := Try.prog) W 22 3 i0 (.int .i64 0) Try.underlying22 hi hz0 .i64 .i64 n n (by omega) (by omega) (by rw [hz2]; omega) (by omega)
  rw [h, hz1]
  have e : madeCells (Value.int .i64 0).cells ((n : Int).toNat * 1) = Array.replicate n (.int .i64 0) := by
    apply Array.ext
    · simp [madeCells]
    · intro j h1 h2
      simp [madeCells, Value.cells, Nat.mod_one]
  rw [e]
  simp
/-- A row of numbers of its own. -/
structure NS (wo : World) (gb : Nat) (L : List Int) (W : World) : Prop where
  bel : Below wo.heap.size wo W
  new : wo.heap.size ≤ gb
  row : W.heap[gb]? = some (.cells (L.map (Value.int .i64)).toArray 3 (0, 0))
theorem NS.then_ {wo : World} {gb : Nat} {L : List Int} {W W' : World} (h : NS wo gb L W) (hb : Below W.heap.size W W') : NS wo gb L W' := ⟨h.bel.then_below hb h.bel.size, h.new, blk_below hb h.row⟩
theorem NS.at_ {wo : World} {gb : Nat} {L : List Int} {W : World} (h : NS wo gb L W) {k : Nat} (hk : k < L.length) : W.cell? ⟨gb, k, none⟩ = some (.int .i64 L[k]) := by
  refine (cell_of_blk h.row _).trans (List.getElem?_toArray.trans ?_)
  rw [List.getElem?_map, List.getElem?_eq_getElem hk]
  rfl
theorem NS.set {wo : World} {gb : Nat} {L : List Int} {W : World} (h : NS wo gb L W) (k : Nat) (x : Int) : NS wo gb (L.set k x) (W.setCell ⟨gb, k, none⟩ (.int .i64 x)) := by
  have hn := h.new
  refine ⟨h.bel.setCell hn _, h.new, ?_⟩
  have := blk_set h.row (i := k) (.int .i64 x)
  rw [List.map_set]
  simpa only [List.setIfInBounds_toArray] using this
def cnL (ms : List Mc) (plan : List Int) : List Int := ms.mapIdx fun k _ => (plan.count (k : Int) : Int)
theorem cnL_len (ms : List Mc) (plan : List Int) : (cnL ms plan).length = ms.length := by unfold cnL; rw [List.length_mapIdx]
theorem cnL_at (ms : List Mc) (plan : List Int) {k : Nat} (h : k < ms.length) : (cnL ms plan)[k]'(by rw [cnL_len]; exact h) = (plan.count (k : Int) : Int) := by
  unfold cnL
  rw [List.getElem_mapIdx]
theorem cnL_zero (ms : List Mc) (plan : List Int) : cnL ms (plan.take 0) = List.replicate ms.length 0 := by
  refine List.ext_getElem (by rw [cnL_len, List.length_replicate]) fun j h1 h2 => ?_
  rw [cnL_len] at h1
  rw [cnL_at _ _ h1, List.getElem_replicate, List.take_zero]
  rfl
theorem cnL_step {ms : List Mc} {plan : List Int} {t p : Nat} (h1 : t < plan.length) (hp : plan[t] = (p : Int)) (hm : p < ms.length) : cnL ms (plan.take (t + 1)) = (cnL ms (plan.take t)).set p (((plan.take t).count (p : Int) : Int) + 1) := by
  refine List.ext_getElem (by rw [List.length_set, cnL_len, cnL_len]) fun k hk1 hk2 => ?_
  have hk : k < ms.length := by rw [cnL_len] at hk1; exact hk1
  rw [List.getElem_set, cnL_at _ _ hk, cnL_at _ _ hk]
  have hc : (plan.take (t + 1)).count (k : Int) = (plan.take t).count (k : Int) + if plan[t] = (k : Int) then 1 else 0 := by
    rw [List.take_succ_eq_append_getElem h1, List.count_append, List.count_singleton]
    congr 1
    by_cases e : plan[t] = (k : Int)
    · rw [if_pos e, e]; simp
    · rw [if_neg e]
      simp [e]
  rw [hc, hp]
  by_cases e : p = k
  · subst e
    rw [if_pos rfl, if_pos rfl]
    omega
  · rw [if_neg e, if_neg (by omega)]
    omega

set_option maxRecDepth 100000 in
set_option maxHeartbeats 8000000 in
theorem linePlanFault_any {base : Nat} (ms : List Mc) (ns : List Nd) (plan : List Int) (hm : MsOk ms) (hn : NsOk ns) (hpl : plan.length ≤ 1000000) {v1 v2 v3 : Value} {w : World} (h1 : MsF base v1 ms w) (h2 : Reads encD v2 ns w) (h3 : Reads encN v3 plan w) :
    Calls Try.prog 15 #[v1, v2, v3] w fun e w' => e = .returned (.int .i64 (planErr ms ns plan)) ∧ Below w.heap.size w w' := by
  have HR := Lib.hid (And.intro h1 (And.intro h2 h3))
  have HM := Lib.hid hm
  have HN := Lib.hid hn
  have hmf := hm.few
  have hms := hm.some
  have hnf := hn.few
  obtain ⟨A1, c1, rfl, hc1, _⟩ := h1
  obtain ⟨A2, c2, rfl, _⟩ := h2
  obtain ⟨A3, c3, rfl, _⟩ := h3
  clear hm hn
  have HP : Hid (planErr ms ns plan = if (plan.length : Int) ≠ ns.length then 3 else if pErr ms plan ns = 0 then full plan ms 0 else pErr ms plan ns) := rfl
  generalize planErr ms ns plan = E at *
  by_cases hln : (plan.length : Int) ≠ ns.length
  · have HF : Hid (E = 3) := HP.out.trans (if_pos hln)
    have hln2 : ((plan.length : Int) != (ns.length : Int)) = true := bne_iff_ne.mpr hln
    clear hln HP
    go_enter Try.func15, Try.ntmps15
    go_wp2_with fail
    go_ret
    exact ⟨ret_int HF.out.symm, Below.refl _ _⟩
  have HE2 : Hid (E = if pErr ms plan ns = 0 then full plan ms 0 else pErr ms plan ns) := HP.out.trans (if_neg hln)
  have hln2 : ((plan.length : Int) != (ns.length : Int)) = false := by simpa using hln
  have HLEN : Hid (plan.length = ns.length) := by show _ = _; omega
  generalize hPE : pErr ms plan ns = PE at *
  have HPE := Lib.hid hPE
  have hmk := run_makeI ms.length (by omega)
  have H0 : Hid (NS w w.heap.size (cnL ms (plan.take 0)) (w.alloc (.cells (Array.replicate ms.length (.int .i64 0)) 3))) := by
    refine ⟨(Below.refl _ _).alloc (Nat.le_refl _) _, Nat.le_refl _, ?_⟩
    rw [cnL_zero, List.map_replicate, List.toArray_replicate]
    exact blk_new w _ rfl
  clear HP hln hPE
  go_enter Try.func15, Try.ntmps15
  go_upto_region 4 with (fail)
  generalize w.alloc (.cells (Array.replicate ms.length (.int .i64 0)) 3) = w0 at *
  obtain ⟨gb, hgb⟩ : ∃ gb, w.heap.size = gb := ⟨_, rfl⟩
  rw [hgb] at H0 ⊢
  clear hmk hln2 hgb
  go_wp2_with fail
  go_loopw [22] (fun kk wr => ∃ t : Nat, t ≤ plan.length ∧ kk = .int .i64 t ∧ Hid (NS w gb (cnL ms (plan.take t)) wr ∧ PE = pErr ms (plan.drop t) (ns.drop t))) (fun kk _ => plan.length - (intOf kk).toNat)
  case atStart => exact ⟨0, by omega, rfl, H0.out, HPE.out.symm⟩
  case round =>
    clear H0
    obtain ⟨t, ht, rfl, HS⟩ := hrel
    by_cases htl : t < plan.length
    · have hnt : t < ns.length := by have := HLEN.out; omega
      have HD : Hid (PE = if inR plan[t] 0 ((ms.length : Int) - 1) = false then 8 else if has (mcA ms plan[t].toNat).can ns[t].part = false then 4 else pErr ms (plan.drop (t + 1)) (ns.drop (t + 1))) := HS.out.2.trans (pErr_drop htl hnt)
      have HST : Hid (∀ p : Nat, plan[t] = (p : Int) → p < ms.length → cnL ms (plan.take (t + 1)) = (cnL ms (plan.take t)).set p (((plan.take t).count (p : Int) : Int) + 1)) := fun p h1 h2 => cnL_step htl h1 h2
      have HB1 := Lib.hid HS.out.1
      have hR := HR.out
      obtain ⟨g3, e3, hg3, d0⟩ := readsN_at (hR.2.2.below HS.out.1.bel) htl
      obtain ⟨g2, e2, hg2, n0, n1⟩ := readsD_at (hR.2.1.below HS.out.1.bel) hnt
      cases e3
      cases e2
      clear hR HS
      generalize plan[t] = kx at *
      generalize ns[t] = nd at *
      obtain ⟨part, many⟩ := nd
      dsimp only at HD n0 n1
      have CW := Lib.hid (fun W => refinR kx 0 ((ms.length : Int) - 1) W)
      have i1 : (0 : Int) ≤ (t : Int) := by omega
      have i2 : (t : Int) < (plan.length : Int) := by omega
      have i5 : (t : Int) < (ns.length : Int) := by omega
      have hrng : inR kx 0 ((ms.length : Int) - 1) = true → 0 ≤ kx ∧ kx < (ms.length : Int) := fun h => by
        unfold inR at h
        simp at h
        omega
      have HRNG := Lib.hid hrng
      clear hrng
      cases hin : inR kx 0 ((ms.length : Int) - 1)
      · have HF8 := Lib.hid (HD.out.trans (if_pos hin))
        have HF : Hid (E = 8) := HE2.out.trans (by rw [HF8.out]; rfl)
        rw [hin] at CW
        clear hin HD HF8
        go_wp2_with fail
        refine (CW.out _).mono ?_
        rintro e w3 ⟨rfl, rfl⟩
        go_wp2_with fail
        go_ret
        exact ⟨ret_int HF.out.symm, HB1.out.bel⟩
      have HD1 := Lib.hid (HD.out.trans (if_neg (by rw [hin]; simp)))
      obtain ⟨k0, k1⟩ := HRNG.out hin
      rw [hin] at CW
      obtain ⟨p, rfl⟩ := Int.eq_ofNat_of_zero_le k0
      have hpm : p < ms.length := by omega
      have HST2 := Lib.hid (HST.out p rfl hpm)
      obtain ⟨g1, e1, hg1, q0, q1, q2, q3, u, q4, hu⟩ := (HR.out.1.below HB1.out.bel).at_ hpm
      cases e1
      obtain ⟨A4, c4, rfl, hc4, hr4⟩ := hu
      have hmo := HM.out.ok _ (List.getElem_mem hpm)
      have HU : Hid (ReadsF base encS (.slice A4 ms[p].can.length c4) ms[p].can wr) := ⟨A4, c4, rfl, hc4, hr4⟩
      have HD2 : Hid (PE = if has ms[p].can part = false then 4 else pErr ms (plan.drop (t + 1)) (ns.drop (t + 1))) := HD1.out.trans (by rw [Int.toNat_natCast, mcA_at hpm])
      have hLp : p < (cnL ms (plan.take t)).length := by rw [cnL_len]; exact hpm
      have hpa := count_le plan t (p : Int)
      have hpa0 : (0 : Int) ≤ ((plan.take t).count (p : Int) : Int) := by omega
      have HAT : Hid ((cnL ms (plan.take t))[p] = ((plan.take t).count (p : Int) : Int)) := cnL_at _ _ hpm
      generalize ((plan.take t).count (p : Int) : Int) = pa at *
      clear hin HD HD1 HRNG hr4 HST
      generalize ms[p] = m at *
      obtain ⟨key, each, fixed, feed, can⟩ := m
      have hcl := hmo.few
      dsimp only at q0 q1 q2 q3 q4 HU HD2 hcl hc4
      have CP : Hid (∀ (W : World) (h : ReadsF base encS (.slice A4 can.length c4) can W), Calls Try.prog 53 #[.slice A4 can.length c4, .string part] W fun e w' => e = .returned (.bool (has can part)) ∧ W = w') := fun W h => by
        have := contains_any part can.length (Nat.le_refl _) (by omega) h c4
        rw [List.take_of_length_le (Nat.le_refl _)] at this
        exact this
      clear hmo
      have i3 : (0 : Int) ≤ (p : Int) := by omega
      have i4 : (p : Int) < (ms.length : Int) := by omega
      have hzx := HB1.out.bel.size
      go_upto_region 9 with (refine (CW.out _).mono ?_; rintro e w3 ⟨rfl, rfl⟩)
      refine Rg.rgL (fun a b => Below a.heap.size a b)
        [(fun vs u => vs 0 = .slice (some ⟨g1, 0, none⟩) ms.length c1), (fun vs u => vs 1 = .int .i64 p), (fun vs u => vs 2 = .pointer (some ⟨g1, p * 5, none⟩)), (fun vs u => vs 3 = .pointer (some ⟨g1, p * 5 + 4, none⟩)), (fun vs u => vs 4 = .slice A4 can.length c4), (fun vs u => vs 5 = .slice (some ⟨g2, 0, none⟩) ns.length c2), (fun vs u => vs 6 = .int .i64 t), (fun vs u => vs 7 = .pointer (some ⟨g2, t * 2, none⟩)), (fun vs u => vs 8 = .pointer (some ⟨g2, t * 2, none⟩)), (fun vs u => vs 9 = .string part)]
        [[], [], [0, 1], [0, 1, 2], [0, 1, 2, 3], [], [], [5, 6], [5, 6, 7], [5, 6, 7, 8]] [some 33, some 34, some 35, some 36, some 37, some 38, some 39, some 40, some 41, some 42, some 43, some 44] [] (fun _ _ => True) [[], [], [0, 1], [0, 1, 2], [0, 1, 2, 3], [], [], [5, 6], [5, 6, 7], [5, 6, 7, 8], [0, 1, 2, 3, 4, 5, 6, 7, 8, 9], [0, 1, 2, 3, 4, 5, 6, 7, 8, 9, 10]]
        (by kernel_rfl) (by decide) (by kernel_rfl) (by kernel_rfl) (by kernel_rfl) (by kernel_rfl) (by kernel_rfl) (fun _ => Below.refl _ _) (fun _ _ _ h k => h.ext k) (fun _ _ h => h.size) ?_ trivial ?_ ?_
      · intro t ht vs w w' h hE
        simp only [List.mem_cons, List.not_mem_nil, or_false] at ht
        rcases ht with rfl | rfl | rfl | rfl | rfl | rfl | rfl | rfl | rfl | rfl
        · exact h
        · exact h
        · exact h
        · exact h
        · exact h
        · exact h
        · exact h
        · exact h
        · exact h
        · exact h
      ·
        refine Rg.cons 0 1 rfl (Rg.plain rfl ?_) ?_
        · intro vs W n hn hI hG hT hF K hK
          simp only [Rg.putsD, List.getD_cons_zero, List.getD_cons_succ, Act.put, List.setIfInBounds_toArray, List.set_cons_zero, List.set_cons_succ] at hK ⊢
          clear hn
          clear hF hI
          have H := Lib.hid hK
          clear hK hT
          go_simp
          exact H.out _ _ (Below.refl _ _) rfl (fun h => by cases h) trivial
        refine Rg.cons 1 2 rfl (Rg.plain rfl ?_) ?_
        · intro vs W n hn hI hG hT hF K hK
          simp only [Rg.putsD, List.getD_cons_zero, List.getD_cons_succ, Act.put, List.setIfInBounds_toArray, List.set_cons_zero, List.set_cons_succ] at hK ⊢
          clear hn
          clear hF hI
          have H := Lib.hid hK
          clear hK hT
          go_simp
          exact H.out _ _ (Below.refl _ _) rfl (fun h => by cases h) trivial
        refine Rg.cons 2 3 rfl (Rg.plain rfl ?_) ?_
        · intro vs W n hn hI hG hT hF K hK
          simp only [Rg.putsD, List.getD_cons_zero, List.getD_cons_succ, Act.put, List.setIfInBounds_toArray, List.set_cons_zero, List.set_cons_succ] at hK ⊢
          clear hn
          clear hF hI
          have t0 : vs 0 = .slice (some ⟨g1, 0, none⟩) ms.length c1 := hT 0 (by decide)
          have t1 : vs 1 = .int .i64 p := hT 1 (by decide)
          simp only [t0, t1] at hK
          have H := Lib.hid hK
          clear hK hT
          go_simp
          exact H.out _ _ (Below.refl _ _) rfl (fun h => by cases h) trivial
        refine Rg.cons 3 4 rfl (Rg.plain rfl ?_) ?_
        · intro vs W n hn hI hG hT hF K hK
          simp only [Rg.putsD, List.getD_cons_zero, List.getD_cons_succ, Act.put, List.setIfInBounds_toArray, List.set_cons_zero, List.set_cons_succ] at hK ⊢
          clear hn
          clear hF hI
          have t0 : vs 0 = .slice (some ⟨g1, 0, none⟩) ms.length c1 := hT 0 (by decide)
          have t1 : vs 1 = .int .i64 p := hT 1 (by decide)
          have t2 : vs 2 = .pointer (some ⟨g1, p * 5, none⟩) := hT 2 (by decide)
          simp only [t0, t1, t2] at hK
          have H := Lib.hid hK
          clear hK hT
          go_simp
          exact H.out _ _ (Below.refl _ _) rfl (fun h => by cases h) trivial
        refine Rg.cons 4 5 rfl (Rg.plain rfl ?_) ?_
        · intro vs W n hn hI hG hT hF K hK
          simp only [Rg.putsD, List.getD_cons_zero, List.getD_cons_succ, Act.put, List.setIfInBounds_toArray, List.set_cons_zero, List.set_cons_succ] at hK ⊢
          clear hn
          clear hF hI
          have t0 : vs 0 = .slice (some ⟨g1, 0, none⟩) ms.length c1 := hT 0 (by decide)
          have t1 : vs 1 = .int .i64 p := hT 1 (by decide)
          have t2 : vs 2 = .pointer (some ⟨g1, p * 5, none⟩) := hT 2 (by decide)
          have t3 : vs 3 = .pointer (some ⟨g1, p * 5 + 4, none⟩) := hT 3 (by decide)
          have c4 := (hG.cell (p := ⟨g1, p * 5 + 4, none⟩) hg1).trans q4
          simp only [t0, t1, t2, t3] at hK
          have H := Lib.hid hK
          clear hK hT
          go_simp
          exact H.out _ _ (Below.refl _ _) rfl (fun h => by cases h) trivial
        refine Rg.cons 5 6 rfl (Rg.plain rfl ?_) ?_
        · intro vs W n hn hI hG hT hF K hK
          simp only [Rg.putsD, List.getD_cons_zero, List.getD_cons_succ, Act.put, List.setIfInBounds_toArray, List.set_cons_zero, List.set_cons_succ] at hK ⊢
          clear hn
          clear hF hI
          have H := Lib.hid hK
          clear hK hT
          go_simp
          exact H.out _ _ (Below.refl _ _) rfl (fun h => by cases h) trivial
        refine Rg.cons 6 7 rfl (Rg.plain rfl ?_) ?_
        · intro vs W n hn hI hG hT hF K hK
          simp only [Rg.putsD, List.getD_cons_zero, List.getD_cons_succ, Act.put, List.setIfInBounds_toArray, List.set_cons_zero, List.set_cons_succ] at hK ⊢
          clear hn
          clear hF hI
          have H := Lib.hid hK
          clear hK hT
          go_simp
          exact H.out _ _ (Below.refl _ _) rfl (fun h => by cases h) trivial
        refine Rg.cons 7 8 rfl (Rg.plain rfl ?_) ?_
        · intro vs W n hn hI hG hT hF K hK
          simp only [Rg.putsD, List.getD_cons_zero, List.getD_cons_succ, Act.put, List.setIfInBounds_toArray, List.set_cons_zero, List.set_cons_succ] at hK ⊢
          clear hn
          clear hF hI
          have t5 : vs 5 = .slice (some ⟨g2, 0, none⟩) ns.length c2 := hT 5 (by decide)
          have t6 : vs 6 = .int .i64 t := hT 6 (by decide)
          simp only [t5, t6] at hK
          have H := Lib.hid hK
          clear hK hT
          go_simp
          exact H.out _ _ (Below.refl _ _) rfl (fun h => by cases h) trivial
        refine Rg.cons 8 9 rfl (Rg.plain rfl ?_) ?_
        · intro vs W n hn hI hG hT hF K hK
          simp only [Rg.putsD, List.getD_cons_zero, List.getD_cons_succ, Act.put, List.setIfInBounds_toArray, List.set_cons_zero, List.set_cons_succ] at hK ⊢
          clear hn
          clear hF hI
          have t5 : vs 5 = .slice (some ⟨g2, 0, none⟩) ns.length c2 := hT 5 (by decide)
          have t6 : vs 6 = .int .i64 t := hT 6 (by decide)
          have t7 : vs 7 = .pointer (some ⟨g2, t * 2, none⟩) := hT 7 (by decide)
          simp only [t5, t6, t7] at hK
          have H := Lib.hid hK
          clear hK hT
          go_simp
          exact H.out _ _ (Below.refl _ _) rfl (fun h => by cases h) trivial
        refine Rg.cons 9 10 rfl (Rg.plain rfl ?_) ?_
        · intro vs W n hn hI hG hT hF K hK
          simp only [Rg.putsD, List.getD_cons_zero, List.getD_cons_succ, Act.put, List.setIfInBounds_toArray, List.set_cons_zero, List.set_cons_succ] at hK ⊢
          clear hn
          clear hF hI
          have t5 : vs 5 = .slice (some ⟨g2, 0, none⟩) ns.length c2 := hT 5 (by decide)
          have t6 : vs 6 = .int .i64 t := hT 6 (by decide)
          have t7 : vs 7 = .pointer (some ⟨g2, t * 2, none⟩) := hT 7 (by decide)
          have t8 : vs 8 = .pointer (some ⟨g2, t * 2, none⟩) := hT 8 (by decide)
          have c0 := (hG.cell (p := ⟨g2, t * 2, none⟩) hg2).trans n0
          simp only [t5, t6, t7, t8] at hK
          have H := Lib.hid hK
          clear hK hT
          go_simp
          exact H.out _ _ (Below.refl _ _) rfl (fun h => by cases h) trivial
        exact Rg.nil
      · intro vs W hG hI hT hF
        have t0 : vs 0 = .slice (some ⟨g1, 0, none⟩) ms.length c1 := hT 0 (by decide)
        have t1 : vs 1 = .int .i64 p := hT 1 (by decide)
        have t2 : vs 2 = .pointer (some ⟨g1, p * 5, none⟩) := hT 2 (by decide)
        have t3 : vs 3 = .pointer (some ⟨g1, p * 5 + 4, none⟩) := hT 3 (by decide)
        have t4 : vs 4 = .slice A4 can.length c4 := hT 4 (by decide)
        have t5 : vs 5 = .slice (some ⟨g2, 0, none⟩) ns.length c2 := hT 5 (by decide)
        have t6 : vs 6 = .int .i64 t := hT 6 (by decide)
        have t7 : vs 7 = .pointer (some ⟨g2, t * 2, none⟩) := hT 7 (by decide)
        have t8 : vs 8 = .pointer (some ⟨g2, t * 2, none⟩) := hT 8 (by decide)
        have t9 : vs 9 = .string part := hT 9 (by decide)
        simp only [List.length_cons, List.length_nil, Nat.reduceAdd, List.range, List.range.loop, List.drop_succ_cons, List.drop_zero, Rg.putsD, List.getD_cons_zero, List.getD_cons_succ, Act.put, List.setIfInBounds_toArray, List.set_cons_zero, List.set_cons_succ, t0, t1, t2, t3, t4, t5, t6, t7, t8, t9]
        clear hT t0 t1 t2 t3 t4 t5 t6 t7 t8 t9
        have hGW : Below wr.heap.size wr W := (Below.refl _ _).drew.then_below hG (Nat.le_refl _)
        have HB2 := Lib.hid (HB1.out.then_ hGW)
        have HU2 := Lib.hid (HU.out.below hGW)
        clear hF hI hG hGW d0 n0 n1 q0 q1 q2 q3 q4 CW HU HB1
        have r0 := HB2.out.at_ hLp
        rw [HAT.out] at r0
        have f0 := frozen_of_blk HB2.out.row p
        have pg := lt_of_blk HB2.out.row
        cases hh : has can part
        · have HF4 := Lib.hid (HD2.out.trans (if_pos hh))
          have HF : Hid (E = 4) := HE2.out.trans (by rw [HF4.out]; rfl)
          rw [hh] at CP
          clear hh HD2 HF4
          go_wp2_with fail
          refine (CP.out _ HU2.out).mono ?_
          rintro e w3 ⟨rfl, rfl⟩
          go_wp2_with fail
          go_ret
          exact ⟨ret_int HF.out.symm, HB2.out.bel⟩
        · have HF : Hid (PE = pErr ms (plan.drop (t + 1)) (ns.drop (t + 1))) := HD2.out.trans (if_neg (by rw [hh]; simp))
          rw [hh] at CP
          clear hh HD2
          have H2 : Hid (NS w gb (cnL ms (plan.take (t + 1))) (W.setCell ⟨gb, p, none⟩ (.int .i64 (pa + 1)))) := by rw [HST2.out]; exact HB2.out.set p (pa + 1)
          go_wp2_with fail
          refine (CP.out _ HU2.out).mono ?_
          rintro e w3 ⟨rfl, rfl⟩
          go_wp2_with fail
          go_roundw
          case rel => exact ⟨t + 1, by omega, by go_num, H2.out, HF.out⟩
          case measure => simp [intOf]; omega
    · have hP0 : PE = 0 := HS.out.2.trans (by rw [List.drop_eq_nil_of_le (by omega)]; rfl)
      have HF : Hid (E = full plan ms 0) := HE2.out.trans (if_pos hP0)
      have HB1 : Hid (NS w gb (cnL ms plan) wr) := by
        have := HS.out.1
        rw [List.take_of_length_le (by omega)] at this
        exact this
      clear HS hP0 HE2 HPE
      obtain ⟨wq, hwq⟩ : ∃ wq : World, wq = wr := ⟨_, rfl⟩
      rw [← hwq] at HB1 ⊢
      clear hwq
      go_wp2_with fail
      go_loopw [54] (fun kk wr => ∃ k : Nat, k ≤ ms.length ∧ kk = .int .i64 k ∧ Hid (wr = wq ∧ E = full plan (ms.drop k) k)) (fun kk _ => ms.length - (intOf kk).toNat)
      case atStart => exact ⟨0, by omega, rfl, rfl, HF.out⟩
      case round =>
        clear HF
        obtain ⟨k, hk, rfl, HS⟩ := hrel
        obtain ⟨rfl, hS⟩ := HS.out
        by_cases hlt : k < ms.length
        · have HD := Lib.hid (hS.trans (full_drop hlt))
          have hLk : k < (cnL ms plan).length := by rw [cnL_len]; exact hlt
          have l0 := HB1.out.at_ hLk
          rw [cnL_at _ _ hlt] at l0
          have hgb := lt_of_blk HB1.out.row
          obtain ⟨g1, e1, hg1, q0, q1, q2, q3, u, q4, hu⟩ := (HR.out.1.below HB1.out.bel).at_ hlt
          cases e1
          clear HS hS
          generalize (plan.count (k : Int) : Int) = pa at *
          generalize ms[k] = m at *
          obtain ⟨key, each, fixed, feed, can⟩ := m
          dsimp only at q0 q1 q2 q3 q4 HD
          have i1 : (0 : Int) ≤ (k : Int) := by omega
          have i2 : (k : Int) < (ms.length : Int) := by omega
          by_cases hfe : feed < pa
          · have HF : Hid (E = 12) := HD.out.trans (if_pos hfe)
            go_wp2_with fail
            go_ret
            exact ⟨ret_int HF.out.symm, HB1.out.bel⟩
          · have HF : Hid (E = full plan (ms.drop (k + 1)) (k + 1)) := HD.out.trans (if_neg hfe)
            go_wp2_with fail
            go_roundw
            case rel => exact ⟨k + 1, by omega, by go_num, by trivial, HF.out⟩
            case measure => simp [intOf]; omega
        · have HF : Hid (E = 0) := hS.trans (by rw [List.drop_eq_nil_of_le (by omega)]; rfl)
          clear HS hS
          go_wp2_with fail
          go_ret
          exact ⟨ret_int HF.out.symm, HB1.out.bel⟩
end Go.Proofs.Ytjmjmijjdgolfaa
