/-
  The fastest plan that begins like this.
-/
import Derived.Test.YtmjonmoagpkdiabGreatDoorLbV
namespace Go.Proofs.YtmjonmoagpkdiabGreatDoor
open Go.RowKit
set_option linter.unusedSimpArgs false
set_option linter.unusedVariables false

theorem andNot_sub {s p : Nat} (hs : s < 4096) (h : Sub p s) : bits BinOp.andNot IntKind.i64 (s : Int) (p : Int) = ((s ^^^ p : Nat) : Int) := by
  have hp := h.le
  have h1 : (BitVec.ofInt 64 (s : Int)).toNat = s := by
    rw [BitVec.ofInt_natCast, BitVec.toNat_ofNat]; exact Nat.mod_eq_of_lt (by omega)
  have h2 : (BitVec.ofInt 64 (p : Int)).toNat = p := by
    rw [BitVec.ofInt_natCast, BitVec.toNat_ofNat]; exact Nat.mod_eq_of_lt (by omega)
  have hx : s ^^^ p < 2 ^ 12 := Nat.xor_lt_two_pow (by omega) (by omega)
  have e : (BitVec.ofInt 64 (s : Int) &&& ~~~ BitVec.ofInt 64 (p : Int)).toNat = s ^^^ p := by
    apply Nat.eq_of_testBit_eq
    intro i
    rw [dif_bit h, BitVec.toNat_and, Nat.testBit_and, h1, BitVec.testBit_toNat, BitVec.getLsbD_not, ← BitVec.testBit_toNat, h2]
    by_cases hi : i < 64
    · simp [hi]
    · have : s.testBit i = false := Nat.testBit_lt_two_pow (Nat.lt_of_lt_of_le hs (Nat.le_trans (show 4096 ≤ 2 ^ 64 by decide) (Nat.pow_le_pow_right (by omega) (by omega))))
      simp [hi, this]
  show IntKind.i64.wrap ((BitVec.ofInt 64 (s : Int) &&& ~~~ BitVec.ofInt 64 (p : Int)).toNat : Int) = _
  rw [e, IntKind.wrap_i64]
  omega
theorem lgR_row {A : Option Addr} {c : Nat} {ms : List Mc} {ns : List Nd} {w : World} (h : LgR (.slice A ms.length c) (rowsL ms ns) w) {k : Nat} (hk : k < ms.length) :
    ∃ (g : Nat) (B : Option Addr) (d : Nat), A = some ⟨g, 0, none⟩ ∧ g < w.heap.size ∧ w.cell? ⟨g, k, none⟩ = some (.slice B ns.length d) ∧ ns.length ≤ d ∧ ((∃ b : Nat, B = some ⟨b, 0, none⟩) ∨ (B = none ∧ ns.length = 0 ∧ d = 0)) ∧ Reads encN (.slice B (rowL ms ns k).length d) (rowL ms ns k) w := by
  obtain ⟨A', c', e, _, hr⟩ := h
  simp only [Value.slice.injEq] at e
  obtain ⟨rfl, _, rfl⟩ := e
  have hk' : k < (rowsL ms ns).length := by rw [rowsL_len]; exact hk
  obtain ⟨g, B, d, e, h0, h1, h2, h3, h4⟩ := hr k hk'
  rw [rowsL_at] at h1 h2 h3 h4
  rw [rowL_len] at h1 h2 h3
  exact ⟨g, B, d, e, h0, h1, h2, h3, h4⟩
theorem dif_le {q s : Nat} (h : Sub q s) : s ^^^ q ≤ s := by
  refine Sub.le (sub_iff.mpr fun i hi => ?_)
  rw [dif_bit h, Bool.and_eq_true] at hi
  exact hi.1
/-- What is the best while a machine is counted: the sets from p on have it. -/
def mid (own : Nat → Nat → Int) (k p s : Nat) : Int := if p ≤ s then fsV own (k + 1) s else fsV own k s
theorem dpL_zero (o f : Nat → Int) (s fuel : Nat) (x : Int) : dpL o f s fuel 0 x = x := by
  cases fuel <;> simp [dpL]
/-- What is the best before a machine is counted: one need's set after the other is filled. -/
def fil (t s : Nat) : Int := if s = 0 then 0 else if s < t then NV else 0

set_option maxRecDepth 100000 in
set_option maxHeartbeats 8000000 in
theorem fastest_any {base : Nat} (ms : List Mc) (ns : List Nd) (pre : List Nat) (hm : MsOk ms) (hn : NsOk ns) (hpl : pre.length ≤ ns.length) (hnl : ns.length ≤ 12) {v1 v2 v3 : Value} {w : World}
    (h1 : MsF base v1 ms w) (h2 : LgR v2 (rowsL ms ns) w) (h3 : Reads encN v3 (toZ pre) w) (hT : Tz w) :
    Calls Tryz.prog 38 #[v1, v2, v3] w fun e w' => e = .returned (.int .i64 (fastV ms ns pre)) ∧ Below w.heap.size w w' := by
  have HR := Lib.hid (And.intro h1 (And.intro h2 (And.intro h3 hT)))
  have HM := Lib.hid hm
  have HN := Lib.hid hn
  have hmf := hm.few
  have hms1 := hm.some
  obtain ⟨A1, c1, rfl, hc1, _⟩ := h1
  have hrow0 := fun (A : Option Addr) (c : Nat) (e : v2 = .slice A ms.length c) => lgR_row (k := 0) (e ▸ h2) (by omega)
  obtain ⟨A2, c2, rfl, hc2, _⟩ := h2
  rw [rowsL_len] at hrow0
  obtain ⟨A3, c3, rfl, _⟩ := h3
  obtain ⟨g2, B0, d0, rfl, hg2, hr0, hd0, _, _⟩ := hrow0 A2 c2 rfl
  rw [rowsL_len] at HR
  rw [rowsL_len, toZ_len]
  obtain ⟨L, hL⟩ : ∃ L, ns.length - pre.length = L := ⟨_, rfl⟩
  have HL := Lib.hid hL
  have hLi : (ns.length : Int) - (pre.length : Int) = (L : Int) := by omega
  have hL12 : L ≤ 12 := by omega
  obtain ⟨N, hN⟩ : ∃ N, 2 ^ L = N := ⟨_, rfl⟩
  have hN0 : 1 ≤ N := by rw [← hN]; exact (pow_small hL12).1
  have hN1 : N ≤ 4096 := by rw [← hN]; exact (pow_small hL12).2
  have HN2 := Lib.hid hN
  have hw := wrap_pow hN hN1
  have hmk := run_makeI N (Nat.le_trans hN1 (by decide))
  clear hm hn hrow0 hT hN hL
  go_enter Tryz.func38, Tryz.ntmps38
  go_upto_region 3 with (fail)
  have H1 := Lib.hid (ns_make (Below.refl w.heap.size w) N)
  clear hw hmk
  generalize w.alloc (.cells (Array.replicate N (.int .i64 0)) 3) = wa at *
  obtain ⟨g, hg⟩ : ∃ g, w.heap.size = g := ⟨_, rfl⟩
  rw [hg] at hg2 ⊢
  have HG := Lib.hid hg
  clear hg
  go_wp2_with fail
  go_loopw [9] (fun v9 wr => ∃ (t : Nat), 1 ≤ t ∧ t ≤ N ∧ v9 = .int .i64 t ∧ Hid (NS w w.heap.size (rg N (fil t)) wr)) (fun v9 _ => N - (intOf v9).toNat)
  case atStart => exact ⟨1, by omega, hN0, rfl, by
    have h := H1.out
    rw [rg_congr (g := fil 1) (fun s _ => by unfold fil; by_cases h : s = 0 <;> simp [h])] at h
    exact h⟩
  case round =>
    obtain ⟨t, ht1, ht, rfl, HS⟩ := hrel
    have hgl := lt_of_blk HS.out.row
    have hgl2 := hgl
    rw [HG.out] at hgl2
    by_cases htl : t < N
    · have i1 : (0 : Int) ≤ (t : Int) := by omega
      have i2 : (t : Int) < (N : Int) := by omega
      have h0 := HS.out.at_ (k := t) (by rw [rg_len]; exact htl)
      have f0 := frozen_of_blk HS.out.row t
      have HX : Hid (NS w w.heap.size (rg N (fil (t + 1))) (wr.setCell ⟨w.heap.size, t, none⟩ (.int .i64 1125899906842624))) := by
        have h' := HS.out.set t 1125899906842624
        rw [rg_set (g := fil (t + 1)) t _ (by unfold fil; rw [if_neg (by omega), if_pos (by omega)]; rfl) (fun s hs => by
          unfold fil
          by_cases h1 : s = 0
          · rw [if_pos h1, if_pos h1]
          · rw [if_neg h1, if_neg h1]
            by_cases h2 : s < t
            · rw [if_pos h2, if_pos (by omega)]
            · rw [if_neg h2, if_neg (by omega)])] at h'
        exact h'
      rw [HG.out] at h0 f0 HX
      clear hgl
      go_wp2_with fail
      go_roundw
      case rel => exact ⟨t + 1, by omega, by omega, by go_num, by rw [HG.out]; exact HX⟩
      case measure => simp [intOf] <;> omega
    · obtain rfl : t = N := by omega
      have H3 : Hid (NS w w.heap.size (rg t (fsV (owV ms ns pre) 0)) wr) := by
        have h := HS.out
        rw [rg_congr (g := fsV (owV ms ns pre) 0) (fun s hs => by
          unfold fil fsV
          by_cases h1 : s = 0
          · rw [if_pos h1, if_pos h1]
          · rw [if_neg h1, if_neg h1, if_pos hs])] at h
        exact h
      clear HS H1 hgl hgl2
      go_wp2_with fail
      go_loopw [37] (fun kk wq => ∃ k : Nat, k ≤ ms.length ∧ kk = .int .i64 k ∧ Hid (NS w w.heap.size (rg t (fsV (owV ms ns pre) k)) wq)) (fun kk _ => ms.length - (intOf kk).toNat)
      case atStart => exact ⟨0, by omega, rfl, H3.out⟩
      case round =>
        clear H3
        obtain ⟨k, hk, rfl, HS⟩ := hrel
        by_cases hkm : k < ms.length
        · obtain ⟨g1, e1, hg1, q0, q1, q2, q3, u, q4, A4, c4, rfl, _, _⟩ := (HR.out.1.below HS.out.bel).at_ hkm
          cases e1
          obtain ⟨g2', B, d, e2, hg2', hr, hd, hB, hRr⟩ := lgR_row (HR.out.2.1.below HS.out.bel) hkm
          cases e2
          have CY := Lib.hid (fun (W : World) (h2 : Reads encN (.slice B (rowL ms ns k).length d) (rowL ms ns k) W) (h3 : Reads encN (.slice A3 (toZ pre).length c3) (toZ pre) W) (h4 : Tz W) => cyclesSet_any ms ns pre k HM.out HN.out hkm hpl hnl (vc := .slice A4 ms[k].can.length c4) hd hB h2 h3 h4)
          rw [rowL_len, toZ_len, HL.out, HN2.out] at CY
          have HRr := Lib.hid hRr
          clear hRr
          generalize ms[k] = m at *
          obtain ⟨key, each, fixed, feed, can⟩ := m
          dsimp only at q0 q1 q2 q3 q4 CY
          have i1 : (0 : Int) ≤ (k : Int) := by omega
          have i2 : (k : Int) < (ms.length : Int) := by omega
          have HX : Hid (Below w.heap.size w (wr.alloc (.cells #[.string key, .int .i64 each, .int .i64 fixed, .int .i64 feed, .slice A4 can.length c4] 38)) ∧ NS w w.heap.size (rg t (fsV (owV ms ns pre) k)) (wr.alloc (.cells #[.string key, .int .i64 each, .int .i64 fixed, .int .i64 feed, .slice A4 can.length c4] 38)) ∧ (wr.alloc (.cells #[.string key, .int .i64 each, .int .i64 fixed, .int .i64 feed, .slice A4 can.length c4] 38)).heap[wr.heap.size]? = some (.cells #[.string key, .int .i64 each, .int .i64 fixed, .int .i64 feed, .slice A4 can.length c4] 38 (0, 0))) := ⟨HS.out.bel.alloc HS.out.bel.size _, HS.out.then_ ((Below.refl _ _).alloc (Nat.le_refl _) _), blk_new wr _ rfl⟩
          have HRX : Hid (LgR (.slice (some ⟨g2, 0, none⟩) ms.length c2) (rowsL ms ns) (wr.alloc (.cells #[.string key, .int .i64 each, .int .i64 fixed, .int .i64 feed, .slice A4 can.length c4] 38)) ∧ (wr.alloc (.cells #[.string key, .int .i64 each, .int .i64 fixed, .int .i64 feed, .slice A4 can.length c4] 38)).cell? ⟨g2, k, none⟩ = some (.slice B ns.length d) ∧ g2 < (wr.alloc (.cells #[.string key, .int .i64 each, .int .i64 fixed, .int .i64 feed, .slice A4 can.length c4] 38)).heap.size) := by
            have hb : Below wr.heap.size wr (wr.alloc (.cells #[.string key, .int .i64 each, .int .i64 fixed, .int .i64 feed, .slice A4 can.length c4] 38)) := (Below.refl _ _).alloc (Nat.le_refl _) _
            exact ⟨(HR.out.2.1.below HS.out.bel).below hb, (hb.cell (p := ⟨g2, k, none⟩) hg2').trans hr, Nat.lt_of_lt_of_le hg2' hb.size⟩
          have HRB : Hid (Reads encN (.slice B ns.length d) (rowL ms ns k) (wr.alloc (.cells #[.string key, .int .i64 each, .int .i64 fixed, .int .i64 feed, .slice A4 can.length c4] 38))) := by
            have h := HRr.out.below ((Below.refl wr.heap.size wr).alloc (Nat.le_refl _) (.cells #[.string key, .int .i64 each, .int .i64 fixed, .int .i64 feed, .slice A4 can.length c4] 38))
            rwa [rowL_len] at h
          have HR3 : Hid (Reads encN (.slice A3 pre.length c3) (toZ pre) w ∧ Tz w) := by
            have h := HR.out.2.2
            rwa [toZ_len] at h
          go_upto_region 10 with (fail)
          generalize wr.alloc (.cells #[.string key, .int .i64 each, .int .i64 fixed, .int .i64 feed, .slice A4 can.length c4] 38) = wx at *
          obtain ⟨gx, hgx⟩ : ∃ gx, wr.heap.size = gx := ⟨_, rfl⟩
          rw [hgx] at HX ⊢
          have hgz : w.heap.size ≤ gx := by rw [← hgx]; exact HS.out.bel.size
          clear hgx q0 q1 q2 q3 q4 HS hr hg2' HRr
          have hlx := lt_of_blk HX.out.2.2
          refine Rg.rgL (fun a b => Below a.heap.size a b)
            [(fun vs u => vs 0 = .agg #[.string key, .int .i64 each, .int .i64 fixed, .int .i64 feed, .slice A4 can.length c4]), (fun vs u => vs 1 = .slice (some ⟨g2, 0, none⟩) ms.length c2), (fun vs u => vs 2 = .int .i64 k), (fun vs u => vs 3 = .pointer (some ⟨g2, k, none⟩)), (fun vs u => vs 4 = .slice B ns.length d), (fun vs u => vs 5 = .slice A3 pre.length c3), (fun vs u => vs 6 = .int .i64 k)]
            [[], [], [], [1, 2], [1, 2, 3], [], []] [some 42, some 43, some 44, some 45, some 46, some 47, some 48, some 49, some 12] [] (fun _ _ => True) [[], [], [], [1, 2], [1, 2, 3], [], [], [0, 1, 2, 3, 4, 5, 6], [0, 1, 2, 3, 4, 5, 6, 7]]
            (by kernel_rfl) (by decide) (by kernel_rfl) (by kernel_rfl) (by kernel_rfl) (by kernel_rfl) (by kernel_rfl) (fun _ => Below.refl _ _) (fun _ _ _ h k => h.ext k) (fun _ _ h => h.size) ?_ trivial ?_ ?_
          · intro t ht vs w w' h hE
            simp only [List.mem_cons, List.not_mem_nil, or_false] at ht
            rcases ht with rfl | rfl | rfl | rfl | rfl | rfl | rfl
            · exact h
            · exact h
            · exact h
            · exact h
            · exact h
            · exact h
            · exact h
          ·
            refine Rg.cons 0 1 rfl (Rg.plain rfl ?_) ?_
            · intro vs W n hn hI hG hT hF K hK
              simp only [Rg.putsD, List.getD_cons_zero, List.getD_cons_succ, Act.put, List.setIfInBounds_toArray, List.set_cons_zero, List.set_cons_succ] at hK ⊢
              clear hn
              clear hF hI
              obtain ⟨d0, d1, d2, d3, d4⟩ := blk5 (blk_below hG HX.out.2.2)
              have l8 : gx < W.heap.size := Nat.lt_of_lt_of_le hlx hG.size
              have H := Lib.hid hK
              clear hK hT
              go_simp
              exact H.out _ _ (Below.refl _ _) rfl (fun h => by cases h) trivial
            refine Rg.cons 1 2 rfl (Rg.plain rfl ?_) ?_
            · intro vs W n hn hI hG hT hF K hK
              simp only [Rg.putsD, List.getD_cons_zero, List.getD_cons_succ, Act.put, List.setIfInBounds_toArray, List.set_cons_zero, List.set_cons_succ] at hK ⊢
              clear hn
              clear hF hI
              have H := Lib.hid hK
              clear hK hT
              go_simp
              exact H.out _ _ (Below.refl _ _) rfl (fun h => by cases h) trivial
            refine Rg.cons 2 3 rfl (Rg.plain rfl ?_) ?_
            · intro vs W n hn hI hG hT hF K hK
              simp only [Rg.putsD, List.getD_cons_zero, List.getD_cons_succ, Act.put, List.setIfInBounds_toArray, List.set_cons_zero, List.set_cons_succ] at hK ⊢
              clear hn
              clear hF hI
              have H := Lib.hid hK
              clear hK hT
              go_simp
              exact H.out _ _ (Below.refl _ _) rfl (fun h => by cases h) trivial
            refine Rg.cons 3 4 rfl (Rg.plain rfl ?_) ?_
            · intro vs W n hn hI hG hT hF K hK
              simp only [Rg.putsD, List.getD_cons_zero, List.getD_cons_succ, Act.put, List.setIfInBounds_toArray, List.set_cons_zero, List.set_cons_succ] at hK ⊢
              clear hn
              clear hF hI
              have t1 : vs 1 = .slice (some ⟨g2, 0, none⟩) ms.length c2 := hT 1 (by decide)
              have t2 : vs 2 = .int .i64 k := hT 2 (by decide)
              simp only [t1, t2] at hK
              have H := Lib.hid hK
              clear hK hT
              go_simp
              exact H.out _ _ (Below.refl _ _) rfl (fun h => by cases h) trivial
            refine Rg.cons 4 5 rfl (Rg.plain rfl ?_) ?_
            · intro vs W n hn hI hG hT hF K hK
              simp only [Rg.putsD, List.getD_cons_zero, List.getD_cons_succ, Act.put, List.setIfInBounds_toArray, List.set_cons_zero, List.set_cons_succ] at hK ⊢
              clear hn
              clear hF hI
              have t1 : vs 1 = .slice (some ⟨g2, 0, none⟩) ms.length c2 := hT 1 (by decide)
              have t2 : vs 2 = .int .i64 k := hT 2 (by decide)
              have t3 : vs 3 = .pointer (some ⟨g2, k, none⟩) := hT 3 (by decide)
              have d9 := (hG.cell (p := ⟨g2, k, none⟩) HRX.out.2.2).trans HRX.out.2.1
              have l9 : g2 < W.heap.size := Nat.lt_of_lt_of_le HRX.out.2.2 hG.size
              simp only [t1, t2, t3] at hK
              have H := Lib.hid hK
              clear hK hT
              go_simp
              exact H.out _ _ (Below.refl _ _) rfl (fun h => by cases h) trivial
            refine Rg.cons 5 6 rfl (Rg.plain rfl ?_) ?_
            · intro vs W n hn hI hG hT hF K hK
              simp only [Rg.putsD, List.getD_cons_zero, List.getD_cons_succ, Act.put, List.setIfInBounds_toArray, List.set_cons_zero, List.set_cons_succ] at hK ⊢
              clear hn
              clear hF hI
              have H := Lib.hid hK
              clear hK hT
              go_simp
              exact H.out _ _ (Below.refl _ _) rfl (fun h => by cases h) trivial
            refine Rg.cons 6 7 rfl (Rg.plain rfl ?_) ?_
            · intro vs W n hn hI hG hT hF K hK
              simp only [Rg.putsD, List.getD_cons_zero, List.getD_cons_succ, Act.put, List.setIfInBounds_toArray, List.set_cons_zero, List.set_cons_succ] at hK ⊢
              clear hn
              clear hF hI
              have H := Lib.hid hK
              clear hK hT
              go_simp
              exact H.out _ _ (Below.refl _ _) rfl (fun h => by cases h) trivial
            exact Rg.nil
          · intro vs W hG hI hT hF
            have t0 : vs 0 = .agg #[.string key, .int .i64 each, .int .i64 fixed, .int .i64 feed, .slice A4 can.length c4] := hT 0 (by decide)
            have t1 : vs 1 = .slice (some ⟨g2, 0, none⟩) ms.length c2 := hT 1 (by decide)
            have t2 : vs 2 = .int .i64 k := hT 2 (by decide)
            have t3 : vs 3 = .pointer (some ⟨g2, k, none⟩) := hT 3 (by decide)
            have t4 : vs 4 = .slice B ns.length d := hT 4 (by decide)
            have t5 : vs 5 = .slice A3 pre.length c3 := hT 5 (by decide)
            have t6 : vs 6 = .int .i64 k := hT 6 (by decide)
            simp only [List.length_cons, List.length_nil, Nat.reduceAdd, List.range, List.range.loop, List.drop_succ_cons, List.drop_zero, Rg.putsD, List.getD_cons_zero, List.getD_cons_succ, Act.put, List.setIfInBounds_toArray, List.set_cons_zero, List.set_cons_succ, t0, t1, t2, t3, t4, t5, t6]
            clear hT t0 t1 t2 t3 t4 t5 t6
            have hGW : Below wx.heap.size wx W := (Below.refl _ _).drew.then_below hG (Nat.le_refl _)
            have CYW := Lib.hid (CY.out W (HRB.out.below hGW) (HR3.out.1.below (HX.out.1.then_below hGW HX.out.1.size)) (HR3.out.2.below (HX.out.1.then_below hGW HX.out.1.size)))
            have H4 : Hid (NS w w.heap.size (rg t (fsV (owV ms ns pre) k)) W ∧ gx < W.heap.size) := ⟨HX.out.2.1.then_ hGW, Nat.lt_of_lt_of_le hlx hGW.size⟩
            clear hF hG hI hGW HX HRX HRB HR3 CY hlx
            go_wp2_with fail
            refine CYW.out.mono ?_
            rintro e w5 ⟨b, rfl, hns⟩
            have H5 : Hid (NS w w.heap.size (rg t (fsV (owV ms ns pre) k)) w5 ∧ w5.heap[b]? = some (.cells ((rg t (owV ms ns pre k)).map (Value.int .i64)).toArray 3 (0, 0)) ∧ g < b) := ⟨H4.out.1.then_ hns.bel, hns.row, by have := hns.new; have := H4.out.2; have := HG.out; omega⟩
            clear hns CYW H4
            go_wp2_with fail
            have H6 : Hid (NS w w.heap.size (rg t (mid (owV ms ns pre) k t)) w5 ∧ w5.heap[b]? = some (.cells ((rg t (owV ms ns pre k)).map (Value.int .i64)).toArray 3 (0, 0)) ∧ g < b) := by
              have h := H5.out
              rw [rg_congr (g := mid (owV ms ns pre) k t) (fun s hs => by unfold mid; rw [if_neg (by omega)])] at h
              exact h
            clear H5
            go_loopw [13] (fun v13 wq => ∃ p : Nat, p ≤ t ∧ v13 = .int .i64 ((p : Int) - 1) ∧ Hid (NS w w.heap.size (rg t (mid (owV ms ns pre) k p)) wq ∧ wq.heap[b]? = some (.cells ((rg t (owV ms ns pre k)).map (Value.int .i64)).toArray 3 (0, 0)) ∧ g < b)) (fun v13 _ => (intOf v13 + 1).toNat)
            case atStart => exact ⟨t, by omega, rfl, H6.out⟩
            case round =>
              clear H6
              obtain ⟨p, hp, rfl, HS⟩ := hrel
              rcases Nat.eq_zero_or_pos p with h0 | h0
              · subst h0
                have H7 : Hid (NS w w.heap.size (rg t (fsV (owV ms ns pre) (k + 1))) wr) := by
                  have h := HS.out.1
                  rw [rg_congr (g := fsV (owV ms ns pre) (k + 1)) (fun s hs => by unfold mid; rw [if_pos (by omega)])] at h
                  exact h
                clear HS
                go_wp2_with fail
                go_roundw
                case rel => exact ⟨k + 1, by omega, by go_num, H7.out⟩
                case measure => simp [intOf] <;> omega
              · obtain ⟨s, rfl⟩ : ∃ s, p = s + 1 := ⟨p - 1, by omega⟩
                have hsi : ((s + 1 : Nat) : Int) - 1 = (s : Int) := by omega
                have i3 : (0 : Int) ≤ (s : Int) := by omega
                have i4 : (s : Int) < (t : Int) := by omega
                have i5 : (0 : Int) < (t : Int) := by omega
                have b0 := (cell_of_blk HS.out.2.1 0).trans (show _ = some (Value.int .i64 (owV ms ns pre k 0)) by
                  rw [List.getElem?_toArray, List.getElem?_map, List.getElem?_eq_getElem (by rw [rg_len]; omega), rg_at]; rfl)
                have b1 := lt_of_blk HS.out.2.1
                have s0 := HS.out.1.at_ (k := s) (by rw [rg_len]; omega)
                rw [rg_at, mid, if_neg (by omega), HG.out] at s0
                have s1 := lt_of_blk HS.out.1.row
                rw [HG.out] at s1
                rw [hsi]
                go_upto_region 14 with (fail)
                obtain ⟨O0, hO0⟩ : ∃ x, owV ms ns pre k 0 = x := ⟨_, rfl⟩
                obtain ⟨F0, hF0⟩ : ∃ x, fsV (owV ms ns pre) k s = x := ⟨_, rfl⟩
                have HD : Hid (dpL (owV ms ns pre k) (fsV (owV ms ns pre) k) s s s (max O0 F0) = fsV (owV ms ns pre) (k + 1) s) := by
                  rw [← hO0, ← hF0]
                  rfl
                rw [hO0] at b0
                rw [hF0] at s0
                clear hO0 hF0 hsi h0
                go_quiet (fail)
                go_wp2_with fail
                have HSD : Hid (NS w w.heap.size (rg t (mid (owV ms ns pre) k (s + 1))) wr ∧ wr.heap[b]? = some (.cells ((rg t (owV ms ns pre k)).map (Value.int .i64)).toArray 3 (0, 0)) ∧ g < b) := HS.out
                clear HS b0 b1 s0 s1
                go_loopw [14, 15] (fun v14 v15 wq => ∃ (part : Nat) (least : Int), v14 = .int .i64 least ∧ v15 = .int .i64 part ∧ part ≤ s ∧ Hid ((∃ fuel, part ≤ fuel ∧ dpL (owV ms ns pre k) (fsV (owV ms ns pre) k) s fuel part least = fsV (owV ms ns pre) (k + 1) s) ∧ Sub part s ∧ NS w w.heap.size (rg t (mid (owV ms ns pre) k (s + 1))) wq ∧ wq.heap[b]? = some (.cells ((rg t (owV ms ns pre k)).map (Value.int .i64)).toArray 3 (0, 0)) ∧ g < b)) (fun _ v15 _ => (intOf v15).toNat)
                case atStart => exact ⟨s, _, rfl, rfl, Nat.le_refl _, ⟨s, Nat.le_refl _, HD.out⟩, Nat.and_self s, HSD.out.1.then_ (below_drewN (Below.refl _ _) _), blk_below (below_drewN (Below.refl _ _) _) HSD.out.2.1, HSD.out.2.2⟩
                case round =>
                  clear HD HSD
                  obtain ⟨part, least, rfl, rfl, hps, HS⟩ := hrel
                  rcases Nat.eq_zero_or_pos part with hz | hz
                  · subst hz
                    have HE : Hid (least = fsV (owV ms ns pre) (k + 1) s) := by
                      obtain ⟨fuel, _, e⟩ := HS.out.1
                      rw [dpL_zero] at e
                      exact e
                    have s0 := HS.out.2.2.1.at_ (k := s) (by rw [rg_len]; omega)
                    have f0 := frozen_of_blk HS.out.2.2.1.row s
                    have s1 := lt_of_blk HS.out.2.2.1.row
                    rw [HG.out] at s0 s1 f0
                    have HX : Hid (NS w w.heap.size (rg t (mid (owV ms ns pre) k s)) (wr.setCell ⟨g, s, none⟩ (.int .i64 least)) ∧ (wr.setCell ⟨g, s, none⟩ (.int .i64 least)).heap[b]? = some (.cells ((rg t (owV ms ns pre k)).map (Value.int .i64)).toArray 3 (0, 0)) ∧ g < b) := by
                      refine ⟨?_, blk_far HS.out.2.2.2.1 (by have := HS.out.2.2.2.2; show b ≠ g; omega) _, HS.out.2.2.2.2⟩
                      have h' := HS.out.2.2.1.set s least
                      rw [rg_set (g := mid (owV ms ns pre) k s) s least (by unfold mid; rw [if_pos (Nat.le_refl _)]; exact HE.out.symm) (fun x hx => by
                        unfold mid
                        by_cases h1 : s ≤ x
                        · rw [if_pos h1, if_pos (by omega)]
                        · rw [if_neg h1, if_neg (by omega)]), HG.out] at h'
                      rw [HG.out]
                      exact h'
                    clear HS HE
                    go_wp2_with fail
                    go_roundw
                    case rel => exact ⟨s, by omega, by go_num, HX.out⟩
                    case measure => simp [intOf] <;> omega
                  · have hst : s < 2 ^ L := by rw [HN2.out]; omega
                    have hsub := HS.out.2.1
                    have hdl : s ^^^ part < t := Nat.lt_of_le_of_lt (dif_le hsub) (by omega)
                    have hAN := andNot_sub (by omega) hsub
                    have b0 := (cell_of_blk HS.out.2.2.2.1 part).trans (show _ = some (Value.int .i64 (owV ms ns pre k part)) by
                      rw [List.getElem?_toArray, List.getElem?_map, List.getElem?_eq_getElem (by rw [rg_len]; omega), rg_at]; rfl)
                    have b1 := lt_of_blk HS.out.2.2.2.1
                    have s0 := HS.out.2.2.1.at_ (k := s ^^^ part) (by rw [rg_len]; exact hdl)
                    rw [rg_at, mid, if_neg (by have := dif_le hsub; omega), HG.out] at s0
                    have s1 := lt_of_blk HS.out.2.2.1.row
                    rw [HG.out] at s1
                    have hnx : bits BinOp.and IntKind.i64 ((part : Int) - 1) (s : Int) = (((part - 1) &&& s : Nat) : Int) := by
                      rw [← and_i64_nat (part - 1) s (by omega) (by omega), show ((part - 1 : Nat) : Int) = (part : Int) - 1 by omega]
                    have hnl2 : (part - 1) &&& s ≤ part - 1 := Nat.and_le_left
                    have HSU : Hid (Sub ((part - 1) &&& s) s) := by
                      show ((part - 1) &&& s) &&& s = (part - 1) &&& s
                      rw [Nat.and_assoc, Nat.and_self]
                    obtain ⟨fuel, hfu, hde⟩ := HS.out.1
                    obtain ⟨f2, rfl⟩ : ∃ f2, fuel = f2 + 1 := ⟨fuel - 1, by omega⟩
                    rw [dpL, if_neg (by omega)] at hde
                    have HDE := Lib.hid (And.intro (show (part - 1) &&& s ≤ f2 by omega) hde)
                    clear hde hsub hst hfu
                    generalize owV ms ns pre k part = O1 at *
                    generalize fsV (owV ms ns pre) k (s ^^^ part) = F1 at *
                    generalize (part - 1) &&& s = nx at *
                    have i6 : (0 : Int) ≤ (part : Int) := by omega
                    have i7 : (part : Int) < (t : Int) := by omega
                    have i8 : (0 : Int) < (part : Int) := by omega
                    have i9 : ((s ^^^ part : Nat) : Int) < (t : Int) := by omega
                    generalize s ^^^ part = x at *
                    have i10 : (0 : Int) ≤ (x : Int) := by omega
                    go_upto_region 18 with (fail)
                    go_quiet (fail)
                    go_wp2_with fail
                    go_roundw
                    case rel => exact ⟨nx, min least (max O1 F1), by go_num, by go_num, by omega, ⟨f2, HDE.out⟩, HSU.out, HS.out.2.2.1.then_ (below_drewN (Below.refl _ _) _), blk_below (below_drewN (Below.refl _ _) _) HS.out.2.2.2.1, HS.out.2.2.2.2⟩
                    case measure => simp [intOf] <;> omega
        · obtain rfl : k = ms.length := by omega
          have h0 := HS.out.at_ (k := t - 1) (by rw [rg_len]; omega)
          rw [rg_at] at h0
          have hfv : fsV (owV ms ns pre) ms.length (t - 1) = fastV ms ns pre := by
            unfold fastV
            rw [HL.out, HN2.out]
          have HB := Lib.hid HS.out.bel
          have hgl := lt_of_blk HS.out.row
          obtain ⟨X, hX⟩ : ∃ X, fastV ms ns pre = X := ⟨_, rfl⟩
          have HXV := Lib.hid hX
          rw [hfv, hX] at h0
          rw [HG.out] at h0 hgl
          clear hfv hX
          have i1 : IntKind.i64.wrap ((t : Int) - 1) = ((t - 1 : Nat) : Int) := by rw [IntKind.wrap_i64]; omega
          have i2 : (t : Int) - 1 = ((t - 1 : Nat) : Int) := by omega
          have i3 : ((t - 1 : Nat) : Int) < (t : Int) := by omega
          generalize t - 1 = z at *
          go_wp2_with fail
          go_ret
          exact ⟨by rw [HXV.out]; rfl, HB.out⟩
end Go.Proofs.YtmjonmoagpkdiabGreatDoor
