/-
  The bound: the program's answer, and the reference's.
-/
import Derived.Test.YtmjonmoagpkdiabGreatDoorLbR
namespace Go.Proofs.YtmjonmoagpkdiabGreatDoor
open Go.RowKit
set_option linter.unusedSimpArgs false
set_option linter.unusedVariables false

def fS : List Mc → Int := fun ms => ms.foldl (fun a m => a + m.fixed) 0
def fM : List Mc → Int := fun ms => ms.foldl (fun a m => max a m.fixed) 0
def nS (ms : List Mc) (a0 : Int) : List Nd → Int := fun ns => ns.foldl (fun a n => a + leI (leO ms n.part) * n.many) a0
theorem fS_take {ms : List Mc} {k : Nat} (hk : k < ms.length) : fS (ms.take (k + 1)) = fS (ms.take k) + ms[k].fixed := by
  unfold fS
  rw [List.take_succ_eq_append_getElem hk, List.foldl_append]
  rfl
theorem fM_take {ms : List Mc} {k : Nat} (hk : k < ms.length) : fM (ms.take (k + 1)) = max (fM (ms.take k)) ms[k].fixed := by
  unfold fM
  rw [List.take_succ_eq_append_getElem hk, List.foldl_append]
  rfl
theorem nS_take (ms : List Mc) (a0 : Int) {ns : List Nd} {k : Nat} (hk : k < ns.length) : nS ms a0 (ns.take (k + 1)) = nS ms a0 (ns.take k) + leI (leO ms ns[k].part) * ns[k].many := by
  unfold nS
  rw [List.take_succ_eq_append_getElem hk, List.foldl_append]
  rfl
theorem f_bd {ms : List Mc} (hm : ∀ m ∈ ms, McOk m) : ∀ k, k ≤ ms.length → 0 ≤ fS (ms.take k) ∧ fS (ms.take k) ≤ 10000000 * (k : Int) ∧ 0 ≤ fM (ms.take k) ∧ fM (ms.take k) ≤ 10000000
  | 0, _ => by simp [fS, fM]
  | k + 1, hk => by
    have ih := f_bd hm k (by omega)
    have h := (hm _ (List.getElem_mem (show k < ms.length by omega))).fixed
    rw [fS_take (by omega), fM_take (by omega)]
    omega
theorem leI_bd {ms : List Mc} (hm : ∀ m ∈ ms, McOk m) (x : ByteArray) : 0 ≤ leI (leO ms x) ∧ leI (leO ms x) ≤ 10000000 := by
  have h := leO_bd hm x ms.length (Nat.le_refl _)
  rw [List.take_length] at h
  cases ho : leO ms x with
  | none => simp [leI]
  | some a => exact h a ho
theorem mul_bd {a b : Int} (ha : 0 ≤ a ∧ a ≤ 10000000) (hb : 1 ≤ b ∧ b ≤ 1000) : 0 ≤ a * b ∧ a * b ≤ 10000000000 :=
  ⟨Int.mul_nonneg ha.1 (by omega), Int.le_trans (Int.mul_le_mul ha.2 hb.2 (by omega) (by omega)) (by omega)⟩
theorem n_bd {ms : List Mc} {ns : List Nd} (hm : ∀ m ∈ ms, McOk m) (hn : ∀ n ∈ ns, 1 ≤ n.many ∧ n.many ≤ 1000) {a0 : Int} : ∀ k, k ≤ ns.length → a0 ≤ nS ms a0 (ns.take k) ∧ nS ms a0 (ns.take k) ≤ a0 + 10000000000 * (k : Int)
  | 0, _ => by simp [nS]
  | k + 1, hk => by
    have ih := n_bd hm hn (a0 := a0) k (by omega)
    have h := mul_bd (leI_bd hm ns[k].part) (hn _ (List.getElem_mem (show k < ns.length by omega)))
    rw [nS_take ms a0 (by omega)]
    omega
def bdC (ms : List Mc) (ns : List Nd) : Int := max (fM ms) ((nS ms (fS ms) ns + ms.length - 1) / ms.length)
def bdV (ms : List Mc) (ns : List Nd) : Int := if bothErr ms ns = 0 then bdC ms ns else 0

set_option maxRecDepth 100000 in
set_option maxHeartbeats 8000000 in
theorem bound_any {base : Nat} (ms : List Mc) (ns : List Nd) (hl : ms.length ≤ 1000000) (hc : ∀ m ∈ ms, m.can.length ≤ 1000000) (hnl : ns.length ≤ 1000000) {v1 v2 : Value} {w : World} (h1 : MsF base v1 ms w) (h2 : Reads encD v2 ns w) :
    Calls Tryz.prog 8 #[v1, v2] w fun e w' => e = .returned (.tuple #[.int .i64 (bdV ms ns), .int .i64 (bothErr ms ns)]) ∧ Below w.heap.size w w' := by
  have HR := Lib.hid (And.intro h1 h2)
  have C0 := Lib.hid (check_line ms ns hl hc hnl h1 h2)
  obtain ⟨A1, c1, rfl, hc1, _⟩ := h1
  obtain ⟨A2, c2, rfl, _⟩ := h2
  by_cases h0 : bothErr ms ns = 0
  rotate_left
  · have HV : Hid (bdV ms ns = 0) := if_neg h0
    have hne : (bothErr ms ns != 0) = true := by simp [h0]
    generalize bothErr ms ns = E at *
    generalize bdV ms ns = CV at *
    clear h0
    go_enter Tryz.func8, Tryz.ntmps8
    go_wp2_with fail
    refine C0.out.mono ?_
    rintro e w2 ⟨rfl, b2⟩
    have HB := Lib.hid b2
    clear b2 C0
    go_wp2_with fail
    refine bodyPost_ret (v := .tuple #[.int .i64 0, .int .i64 E]) (by unfold results; simp only [Tryz.results8]; go_simp) rfl ⟨?_, HB.out⟩
    rw [HV.out]
  have HV : Hid (bdV ms ns = bdC ms ns) := if_pos h0
  have hm := machErr_ok (bothErr_ok h0).1
  have hn := needErr_ok (bothErr_ok h0).2
  have HM := Lib.hid hm
  have HN := Lib.hid hn
  have hmf := hm.few
  have hms1 := hm.some
  have hnf := hn.few
  rw [h0] at C0 ⊢
  generalize bdV ms ns = CV at *
  clear hm hn h0
  go_enter Tryz.func8, Tryz.ntmps8
  go_wp2_with fail
  refine C0.out.mono ?_
  rintro e w2 ⟨rfl, b2⟩
  have HB2 := Lib.hid b2
  clear b2 C0
  go_wp2_with fail
  go_loopw [7, 8, 22] (fun v7 v8 kk wr => ∃ (t : Nat) (s x : Int), t ≤ ms.length ∧ kk = .int .i64 t ∧ v7 = .int .i64 s ∧ v8 = .int .i64 x ∧ Hid (s = fS (ms.take t) ∧ x = fM (ms.take t) ∧ Below w.heap.size w wr)) (fun _ _ kk _ => ms.length - (intOf kk).toNat)
  case atStart => exact ⟨0, 0, 0, by omega, rfl, rfl, rfl, rfl, rfl, HB2.out⟩
  case round =>
    clear HB2
    obtain ⟨t, s, x, ht, rfl, rfl, rfl, HS⟩ := hrel
    have hbd := f_bd HM.out.ok t ht
    rw [← HS.out.1, ← HS.out.2.1] at hbd
    by_cases htl : t < ms.length
    · obtain ⟨g1, e1, hg1, q0, q1, q2, q3, u, q4, A4, c4, rfl, hc4, hr4⟩ := (HR.out.1.below HS.out.2.2).at_ htl
      cases e1
      have hmo := HM.out.ok _ (List.getElem_mem htl)
      have hfx := hmo.fixed
      have HT : Hid (fS (ms.take (t + 1)) = s + ms[t].fixed ∧ fM (ms.take (t + 1)) = max x ms[t].fixed) := ⟨(fS_take htl).trans (by rw [HS.out.1]), (fM_take htl).trans (by rw [HS.out.2.1])⟩
      generalize ms[t] = m at *
      obtain ⟨key, each, fixed, feed, can⟩ := m
      dsimp only at q0 q1 q2 q3 q4 hfx HT
      have i1 : (0 : Int) ≤ (t : Int) := by omega
      have i2 : (t : Int) < (ms.length : Int) := by omega
      clear hmo hr4
      have HX : Hid (Below w.heap.size w (wr.alloc (.cells #[.string key, .int .i64 each, .int .i64 fixed, .int .i64 feed, .slice A4 can.length c4] 38)) ∧ (wr.alloc (.cells #[.string key, .int .i64 each, .int .i64 fixed, .int .i64 feed, .slice A4 can.length c4] 38)).heap[wr.heap.size]? = some (.cells #[.string key, .int .i64 each, .int .i64 fixed, .int .i64 feed, .slice A4 can.length c4] 38 (0, 0))) := ⟨HS.out.2.2.alloc HS.out.2.2.size _, blk_new wr _ rfl⟩
      go_upto_region 8 with (fail)
      generalize wr.alloc (.cells #[.string key, .int .i64 each, .int .i64 fixed, .int .i64 feed, .slice A4 can.length c4] 38) = wx at *
      obtain ⟨gx, hgx⟩ : ∃ gx, wr.heap.size = gx := ⟨_, rfl⟩
      rw [hgx] at HX ⊢
      clear hgx q0 q1 q2 q3 q4 HS
      obtain ⟨p0, p1, p2, p3, p4⟩ := blk5 HX.out.2
      have pl := lt_of_blk HX.out.2
      go_wp2_with fail
      go_roundw
      case rel => exact ⟨t + 1, s + fixed, max x fixed, by omega, by go_num, by go_num, rfl, HT.out.1.symm, HT.out.2.symm, HX.out.1⟩
      case measure => simp [intOf]; omega
    · obtain rfl : t = ms.length := by omega
      have HF : Hid (s = fS ms ∧ x = fM ms ∧ Below w.heap.size w wr) := by
        have := HS.out
        rw [List.take_of_length_le (Nat.le_refl _)] at this
        exact this
      clear HS
      go_wp2_with fail
      have HB3 := Lib.hid HF.out.2.2
      go_loopw [7, 37] (fun v7 kk wr2 => ∃ (t : Nat) (y : Int), t ≤ ns.length ∧ kk = .int .i64 t ∧ v7 = .int .i64 y ∧ Hid (y = nS ms s (ns.take t) ∧ Below w.heap.size w wr2)) (fun _ kk _ => ns.length - (intOf kk).toNat)
      case atStart => exact ⟨0, s, by omega, rfl, rfl, rfl, HB3.out⟩
      case round =>
        clear HB3
        obtain ⟨t, y, ht2, rfl, rfl, HS⟩ := hrel
        have hbn := n_bd HM.out.ok HN.out.many (a0 := s) t ht2
        rw [← HS.out.1] at hbn
        by_cases htn : t < ns.length
        · obtain ⟨g2, e2, hg2, n0, n1⟩ := readsD_at (HR.out.2.below HS.out.2) htn
          cases e2
          have HT : Hid (nS ms s (ns.take (t + 1)) = y + leI (leO ms ns[t].part) * ns[t].many) := (nS_take ms s htn).trans (by rw [HS.out.1])
          have hmb := mul_bd (leI_bd HM.out.ok ns[t].part) (HN.out.many _ (List.getElem_mem htn))
          generalize ns[t] = nd at *
          obtain ⟨part, many⟩ := nd
          dsimp only at n0 n1 HT hmb
          have i1 : (0 : Int) ≤ (t : Int) := by omega
          have i2 : (t : Int) < (ns.length : Int) := by omega
          have HX : Hid (Below w.heap.size w (wr.alloc (.cells #[.string part, .int .i64 many] 36)) ∧ (wr.alloc (.cells #[.string part, .int .i64 many] 36)).heap[wr.heap.size]? = some (.cells #[.string part, .int .i64 many] 36 (0, 0))) := ⟨HS.out.2.alloc HS.out.2.size _, blk_new wr _ rfl⟩
          go_upto_region 14 with (fail)
          generalize wr.alloc (.cells #[.string part, .int .i64 many] 36) = wx at *
          obtain ⟨gx, hgx⟩ : ∃ gx, wr.heap.size = gx := ⟨_, rfl⟩
          rw [hgx] at HX ⊢
          have CP := Lib.hid (fun (W : World) (h : MsF base (.slice A1 ms.length c1) ms W) => leastEach_any ms part HM.out h)
          have HR1 := HR.out.1.below HX.out.1
          clear hgx n0 n1 HS
          generalize leI (leO ms part) = z at *
          have wk1 : IntKind.i64.wrap (z * many) = z * many := by rw [IntKind.wrap_i64]; omega
          have wk2 : IntKind.i64.wrap (y + z * many) = y + z * many := by rw [IntKind.wrap_i64]; omega
          have hgl := lt_of_blk HX.out.2
          refine Rg.rgL (fun a b => Below a.heap.size a b)
            [(fun vs u => vs 0 = .int .i64 y), (fun vs u => vs 1 = .slice A1 ms.length c1), (fun vs u => vs 2 = .pointer (some ⟨gx, 0, none⟩)), (fun vs u => vs 3 = .string part), (fun vs u => vs 4 = .int .i64 z), (fun vs u => vs 5 = .pointer (some ⟨gx, 1, none⟩)), (fun vs u => vs 6 = .int .i64 many), (fun vs u => vs 7 = .int .i64 (z * many))]
            [[], [], [], [2], [1, 2, 3], [], [5], [1, 2, 3, 4, 5, 6]] [some 41, some 42, some 43, some 44, some 45, some 46, some 47, some 48, some 49, some 7] [] (fun _ _ => True) [[], [], [], [2], [1, 2, 3], [], [5], [1, 2, 3, 4, 5, 6], [0, 1, 2, 3, 4, 5, 6, 7], [0, 1, 2, 3, 4, 5, 6, 7, 8]]
            (by kernel_rfl) (by decide) (by kernel_rfl) (by kernel_rfl) (by kernel_rfl) (by kernel_rfl) (by kernel_rfl) (fun _ => Below.refl _ _) (fun _ _ _ h k => h.ext k) (fun _ _ h => h.size) ?_ trivial ?_ ?_
          · intro t ht vs w w' h hE
            simp only [List.mem_cons, List.not_mem_nil, or_false] at ht
            rcases ht with rfl | rfl | rfl | rfl | rfl | rfl | rfl | rfl
            · exact h
            · exact h
            · exact h
            · exact h
            · exact h
            · exact h
            · exact h
            · exact h
          ·
            refine Rg.cons 0 1 rfl (Rg.plain rfl ?_) ?_
            · intro vs W n hn hI hG hT hF K hK
              simp only [Rg.putsD, List.getD_cons_zero, List.getD_cons_succ, Act.put, List.setIfInBounds_toArray, List.set_cons_zero, List.set_cons_succ] at hK ⊢
              clear hn
              clear hF hI
              have H := Lib.hid hK
              clear hK hT
              go_simp
              exact H.out _ _ (Below.refl _ _) rfl (fun h => by cases h) trivial
            refine Rg.cons 1 2 rfl (Rg.plain rfl ?_) ?_
            · intro vs W n hn hI hG hT hF K hK
              simp only [Rg.putsD, List.getD_cons_zero, List.getD_cons_succ, Act.put, List.setIfInBounds_toArray, List.set_cons_zero, List.set_cons_succ] at hK ⊢
              clear hn
              clear hF hI
              have H := Lib.hid hK
              clear hK hT
              go_simp
              exact H.out _ _ (Below.refl _ _) rfl (fun h => by cases h) trivial
            refine Rg.cons 2 3 rfl (Rg.plain rfl ?_) ?_
            · intro vs W n hn hI hG hT hF K hK
              simp only [Rg.putsD, List.getD_cons_zero, List.getD_cons_succ, Act.put, List.setIfInBounds_toArray, List.set_cons_zero, List.set_cons_succ] at hK ⊢
              clear hn
              clear hF hI
              have H := Lib.hid hK
              clear hK hT
              go_simp
              exact H.out _ _ (Below.refl _ _) rfl (fun h => by cases h) trivial
            refine Rg.cons 3 4 rfl (Rg.plain rfl ?_) ?_
            · intro vs W n hn hI hG hT hF K hK
              simp only [Rg.putsD, List.getD_cons_zero, List.getD_cons_succ, Act.put, List.setIfInBounds_toArray, List.set_cons_zero, List.set_cons_succ] at hK ⊢
              clear hn
              clear hF hI
              have t2 : vs 2 = .pointer (some ⟨gx, 0, none⟩) := hT 2 (by decide)
              obtain ⟨d0, d1⟩ := blk2c (blk_below hG HX.out.2)
              simp only [t2] at hK
              have H := Lib.hid hK
              clear hK hT
              go_simp
              exact H.out _ _ (Below.refl _ _) rfl (fun h => by cases h) trivial
            refine Rg.cons 4 5 rfl (Rg.plain rfl ?_) ?_
            · intro vs W n hn hI hG hT hF K hK
              simp only [Rg.putsD, List.getD_cons_zero, List.getD_cons_succ, Act.put, List.setIfInBounds_toArray, List.set_cons_zero, List.set_cons_succ] at hK ⊢
              clear hn
              clear hF hI
              have t1 : vs 1 = .slice A1 ms.length c1 := hT 1 (by decide)
              have t2 : vs 2 = .pointer (some ⟨gx, 0, none⟩) := hT 2 (by decide)
              have t3 : vs 3 = .string part := hT 3 (by decide)
              have hG := Lib.hid hG
              simp only [t1, t2, t3] at hK
              have H := Lib.hid hK
              clear hK hT
              go_simp
              refine (CP.out _ (HR1.below ((Below.refl _ _).drew.then_below hG.out (Nat.le_refl _)))).mono ?_
              rintro e wa ⟨rfl, ba⟩
              exact H.out _ _ ba rfl (fun h => by cases h) trivial
            refine Rg.cons 5 6 rfl (Rg.plain rfl ?_) ?_
            · intro vs W n hn hI hG hT hF K hK
              simp only [Rg.putsD, List.getD_cons_zero, List.getD_cons_succ, Act.put, List.setIfInBounds_toArray, List.set_cons_zero, List.set_cons_succ] at hK ⊢
              clear hn
              clear hF hI
              have H := Lib.hid hK
              clear hK hT
              go_simp
              exact H.out _ _ (Below.refl _ _) rfl (fun h => by cases h) trivial
            refine Rg.cons 6 7 rfl (Rg.plain rfl ?_) ?_
            · intro vs W n hn hI hG hT hF K hK
              simp only [Rg.putsD, List.getD_cons_zero, List.getD_cons_succ, Act.put, List.setIfInBounds_toArray, List.set_cons_zero, List.set_cons_succ] at hK ⊢
              clear hn
              clear hF hI
              have t5 : vs 5 = .pointer (some ⟨gx, 1, none⟩) := hT 5 (by decide)
              obtain ⟨d0, d1⟩ := blk2c (blk_below hG HX.out.2)
              simp only [t5] at hK
              have H := Lib.hid hK
              clear hK hT
              go_simp
              exact H.out _ _ (Below.refl _ _) rfl (fun h => by cases h) trivial
            refine Rg.cons 7 8 rfl (Rg.plain rfl ?_) ?_
            · intro vs W n hn hI hG hT hF K hK
              simp only [Rg.putsD, List.getD_cons_zero, List.getD_cons_succ, Act.put, List.setIfInBounds_toArray, List.set_cons_zero, List.set_cons_succ] at hK ⊢
              clear hn
              clear hF hI
              have t1 : vs 1 = .slice A1 ms.length c1 := hT 1 (by decide)
              have t2 : vs 2 = .pointer (some ⟨gx, 0, none⟩) := hT 2 (by decide)
              have t3 : vs 3 = .string part := hT 3 (by decide)
              have t4 : vs 4 = .int .i64 z := hT 4 (by decide)
              have t5 : vs 5 = .pointer (some ⟨gx, 1, none⟩) := hT 5 (by decide)
              have t6 : vs 6 = .int .i64 many := hT 6 (by decide)
              simp only [t1, t2, t3, t4, t5, t6] at hK
              have H := Lib.hid hK
              clear hK hT
              go_simp
              exact H.out _ _ (Below.refl _ _) rfl (fun h => by cases h) trivial
            exact Rg.nil
          · intro vs W hG hI hT hF
            have t0 : vs 0 = .int .i64 y := hT 0 (by decide)
            have t1 : vs 1 = .slice A1 ms.length c1 := hT 1 (by decide)
            have t2 : vs 2 = .pointer (some ⟨gx, 0, none⟩) := hT 2 (by decide)
            have t3 : vs 3 = .string part := hT 3 (by decide)
            have t4 : vs 4 = .int .i64 z := hT 4 (by decide)
            have t5 : vs 5 = .pointer (some ⟨gx, 1, none⟩) := hT 5 (by decide)
            have t6 : vs 6 = .int .i64 many := hT 6 (by decide)
            have t7 : vs 7 = .int .i64 (z * many) := hT 7 (by decide)
            simp only [List.length_cons, List.length_nil, Nat.reduceAdd, List.range, List.range.loop, List.drop_succ_cons, List.drop_zero, Rg.putsD, List.getD_cons_zero, List.getD_cons_succ, Act.put, List.setIfInBounds_toArray, List.set_cons_zero, List.set_cons_succ, t0, t1, t2, t3, t4, t5, t6, t7]
            clear hT t0 t1 t2 t3 t4 t5 t6 t7
            have HB5 := Lib.hid (HX.out.1.then_below ((Below.refl _ _).drew.then_below hG (Nat.le_refl _)) HX.out.1.size)
            clear hF hG hI wk1 wk2 HX HR1 hgl
            go_wp2_with fail
            go_roundw
            case rel => exact ⟨t + 1, y + z * many, by omega, by go_num, rfl, HT.out.symm, HB5.out⟩
            case measure => simp [intOf]; omega
        · obtain rfl : t = ns.length := by omega
          have HG : Hid (CV = max x ((y + ms.length - 1) / ms.length)) := by
            have h := HS.out.1
            rw [List.take_of_length_le (Nat.le_refl _)] at h
            rw [HV.out, bdC, h, HF.out.1, HF.out.2.1]
            rfl
          have hmz : (ms.length : Int) ≠ 0 := by omega
          go_wp2_with fail
          refine bodyPost_ret (v := .tuple #[.int .i64 (max x ((y + ms.length - 1) / ms.length)), .int .i64 0]) (by unfold results; simp only [Tryz.results8]; go_simp) rfl ⟨?_, HS.out.2⟩
          rw [HG.out]
end Go.Proofs.YtmjonmoagpkdiabGreatDoor
