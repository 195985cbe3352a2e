/-
  The balance of a line: the reference's recursion.
-/
import Derived.Test.YtopoemfnnnfgdaaGreatDoorLdA
namespace Go.Proofs.YtopoemfnnnfgdaaGreatDoor
open Go.RowKit
set_option linter.unusedSimpArgs false
set_option linter.unusedVariables false

/-- What a call of the recursion does, with f needs left. -/
def TryS (ms : List Mc) (ns : List Nd) (Am : Option Addr) (cm : Nat) (An : Option Addr) (cn : Nat) (w : World) (q : Bk) (f : Nat) : Prop :=
  ∀ (pre : List Nat) (acc : Acc) (w0 : World), pre.length + f = ns.length → Right ms ns pre → BV w q ms ns (.slice Am ms.length cm) (.slice An ns.length cn) pre acc w0 →
    Calls Tryz.prog 44 #[.int .i64 pre.length, .pointer (some ⟨q.bf, 0, none⟩), .pointer (some ⟨q.bw, 0, none⟩), .pointer (some ⟨q.bl, 0, none⟩), .pointer (some ⟨q.bn, 0, none⟩), .pointer (some ⟨q.bp, 0, none⟩), .pointer (some ⟨q.bb, 0, none⟩), .pointer (some ⟨q.bm, 0, none⟩), .pointer (some ⟨q.bk, 0, none⟩), .pointer (some ⟨q.bt, 0, none⟩)] w0
      fun e w' => e = .returned (.tuple #[]) ∧ BV w q ms ns (.slice Am ms.length cm) (.slice An ns.length cn) pre (tr ms.length (okP ms ns) (mxP ms ns) f pre acc) w' ∧ KB q.bt w0 w'

set_option maxRecDepth 100000 in
set_option maxHeartbeats 32000000 in
theorem tryB_step {base : Nat} (ms : List Mc) (ns : List Nd) (hm : MsOk ms) (hn : NsOk ns) (hnl : ns.length ≤ 12) (Am : Option Addr) (cm : Nat) (An : Option Addr) (cn : Nat) (w : World) (h1 : MsF base (.slice Am ms.length cm) ms w) (h2 : Reads encD (.slice An ns.length cn) ns w) (q : Bk) (f : Nat)
    (IH : ∀ f', f' + 1 = f → TryS ms ns Am cm An cn w q f') : TryS ms ns Am cm An cn w q f := by
  intro pre acc w0 hpf hR hB
  have HEN := enters_of Tryz.func44 (by kernel_rfl) rfl
  have HR := Lib.hid (And.intro h1 h2)
  have HM := Lib.hid hm
  have HN := Lib.hid hn
  have HRI := Lib.hid hR
  have HIH := Lib.hid IH
  have hmf := hm.few
  have hms := hm.some
  clear h1 h2 hm hn IH
  obtain ⟨P, hP, hPt, hB⟩ := hB
  obtain ⟨bm, bn, gp, bp, bb, bl, bf, gy, bk, gw, bw, bt, cw⟩ := q
  have hch := hB.ch
  have hlo := hB.lo
  dsimp only [Bk.Ch] at hch hlo
  have H0 : Hid (BW w ⟨bm, bn, gp, bp, bb, bl, bf, gy, bk, gw, bw, bt, cw⟩ ns.length ms.length (.slice Am ms.length cm) (.slice An ns.length cn) P (cntL ms pre) (cyL ms ns (toZ pre)) acc w0 ∧ KB bt w0 w0) := ⟨hB, KB.refl _ _⟩
  clear hB
  have HPL := Lib.hid (And.intro hP hPt)
  clear hPt
  have HCM : Hid (∀ (W : World), W.ownsRow w.heap.size 3 1 (.slice (some ⟨gw, 0, none⟩) ms.length cw) ms.length ((cyL ms ns (toZ pre)).map (Value.int .i64)) → Calls Tryz.prog 45 #[.slice (some ⟨gw, 0, none⟩) ms.length cw] W fun e w' => e = .returned (.int .i64 (mxP ms ns pre)) ∧ W = w') := fun W hW => by
    have hl := cyL_len ms ns (toZ pre)
    have h := Tryz.slices_Max_int gw 0 ms.length cw (cyL ms ns (toZ pre)) W (by omega) (by omega) (by omega) (fun j hj => by
      rw [Nat.zero_add, List.getD_eq_getElem?_getD, List.getElem?_eq_getElem (by omega)]
      exact own_cell hW (by omega) hl)
    rw [List.take_of_length_le (by omega), slow_max (by omega)] at h
    refine h.mono ?_
    rintro e w' ⟨rfl, rfl⟩
    exact ⟨rfl, rfl⟩
  go_enter Tryz.func44, Tryz.ntmps44
  go_upto_region 0 with (fail)
  go_cut [19] (fun v wc => v = .bool (cutB acc (mxP ms ns pre)) ∧ Hid (BW w ⟨bm, bn, gp, bp, bb, bl, bf, gy, bk, gw, bw, bt, cw⟩ ns.length ms.length (.slice Am ms.length cm) (.slice An ns.length cn) P (cntL ms pre) (cyL ms ns (toZ pre)) acc wc ∧ KB bt w0 wc))
  case first =>
    generalize mxP ms ns pre = X at *
    cases acc with
    | none =>
      refine Rg.rgL (fun a b => Below a.heap.size a b)
        [(fun vs u => vs 0 = .bool false), (fun vs u => vs 1 = .bool false), (fun vs u => vs 2 = undef), (fun vs u => vs 3 = undef), (fun vs u => vs 4 = undef)]
        [[], [0], [0, 1], [0, 1, 2], [0, 1]] [some 13, some 14, some 15, some 16, some 17, some 18, some 19] [] (fun _ _ => True) [[], [0], [0, 1], [0, 1, 2], [0, 1], [0, 1, 2, 3, 4], [0, 1, 2, 3, 4, 5]]
        (by kernel_rfl) (by decide) (by kernel_rfl) (by kernel_rfl) (by kernel_rfl) (by kernel_rfl) (by kernel_rfl) (fun _ => Below.refl _ _) (fun _ _ _ h k => h.ext k) (fun _ _ h => h.size) ?_ trivial ?_ ?_
      · intro t ht vs w w' h hE
        simp only [List.mem_cons, List.not_mem_nil, or_false] at ht
        rcases ht with rfl | rfl | rfl | rfl | rfl
        · exact h
        · exact h
        · exact h
        · exact h
        · exact h
      ·
        refine Rg.cons 0 1 rfl (Rg.plain rfl ?_) ?_
        · intro vs W n hn hI hG hT hF K hK
          simp only [Rg.putsD, List.getD_cons_zero, List.getD_cons_succ, Act.put, List.setIfInBounds_toArray, List.set_cons_zero, List.set_cons_succ] at hK ⊢
          clear hn
          clear hF hI
          have c0 := cell_of_blk (blk_below hG H0.out.1.kf) 0
          simp at c0
          have H := Lib.hid hK
          clear hK hT
          go_simp
          exact H.out _ _ (Below.refl _ _) rfl (fun h => by cases h) trivial
        refine Rg.cons 1 2 rfl (Rg.plain rfl ?_) ?_
        · intro vs W n hn hI hG hT hF K hK
          simp only [Rg.putsD, List.getD_cons_zero, List.getD_cons_succ, Act.put, List.setIfInBounds_toArray, List.set_cons_zero, List.set_cons_succ] at hK ⊢
          clear hn
          clear hF hI
          have t0 : vs 0 = .bool false := hT 0 (by decide)
          simp only [t0] at hK
          have H := Lib.hid hK
          clear hK hT
          go_simp
          exact H.out _ _ (Below.refl _ _) rfl (fun h => by cases h) trivial
        refine Rg.cons 2 3 rfl (Rg.skipped (fun _ => Below.refl _ _) (fun _ _ => rfl) (by decide) (fun _ _ h => h) ?_) ?_
        · intro vs W hT
          have tg : vs 1 = .bool false := hT 1 (by decide)
          simp only [Rg.putsD, List.getD_cons_zero, List.getD_cons_succ, Act.put, List.setIfInBounds_toArray, List.set_cons_zero, List.set_cons_succ, tg]
          rfl
        refine Rg.cons 3 4 rfl (Rg.skipped (fun _ => Below.refl _ _) (fun _ _ => rfl) (by decide) (fun _ _ h => h) ?_) ?_
        · intro vs W hT
          have tg : vs 1 = .bool false := hT 1 (by decide)
          simp only [Rg.putsD, List.getD_cons_zero, List.getD_cons_succ, Act.put, List.setIfInBounds_toArray, List.set_cons_zero, List.set_cons_succ, tg]
          rfl
        refine Rg.cons 4 5 rfl (Rg.skipped (fun _ => Below.refl _ _) (fun _ _ => rfl) (by decide) (fun _ _ h => h) ?_) ?_
        · intro vs W hT
          have tg : vs 1 = .bool false := hT 1 (by decide)
          simp only [Rg.putsD, List.getD_cons_zero, List.getD_cons_succ, Act.put, List.setIfInBounds_toArray, List.set_cons_zero, List.set_cons_succ, tg]
          rfl
        exact Rg.nil
      · intro vs W hG hI hT hF
        have t0 : vs 0 = .bool false := hT 0 (by decide)
        have t1 : vs 1 = .bool false := hT 1 (by decide)
        have t2 : vs 2 = undef := hT 2 (by decide)
        have t3 : vs 3 = undef := hT 3 (by decide)
        have t4 : vs 4 = undef := hT 4 (by decide)
        simp only [List.length_cons, List.length_nil, Nat.reduceAdd, List.range, List.range.loop, List.drop_succ_cons, List.drop_zero, Rg.putsD, List.getD_cons_zero, List.getD_cons_succ, Act.put, List.setIfInBounds_toArray, List.set_cons_zero, List.set_cons_succ, t0, t1, t2, t3, t4]
        clear hT t0 t1 t2 t3 t4
        have H1 : Hid (BW w ⟨bm, bn, gp, bp, bb, bl, bf, gy, bk, gw, bw, bt, cw⟩ ns.length ms.length (.slice Am ms.length cm) (.slice An ns.length cn) P (cntL ms pre) (cyL ms ns (toZ pre)) none W ∧ KB bt w0 W) := ⟨H0.out.1.drew.below hG, KB.of_below ((Below.refl _ _).drew.then_below hG (Nat.le_refl _))⟩
        clear hF hI hG H0 HCM
        go_wp2_with fail
        go_meet
        exact ⟨rfl, H1⟩
    | some bx =>
      obtain ⟨b, x⟩ := bx
      refine Rg.rgL (fun a b => Below a.heap.size a b)
        [(fun vs u => vs 0 = .bool true), (fun vs u => vs 1 = .bool true), (fun vs u => vs 2 = .slice (some ⟨gw, 0, none⟩) ms.length cw), (fun vs u => vs 3 = .int .i64 X), (fun vs u => vs 4 = .int .i64 x)]
        [[], [0], [0, 1], [0, 1, 2], [0, 1]] [some 13, some 14, some 15, some 16, some 17, some 18, some 19] [] (fun _ _ => True) [[], [0], [0, 1], [0, 1, 2], [0, 1], [0, 1, 2, 3, 4], [0, 1, 2, 3, 4, 5]]
        (by kernel_rfl) (by decide) (by kernel_rfl) (by kernel_rfl) (by kernel_rfl) (by kernel_rfl) (by kernel_rfl) (fun _ => Below.refl _ _) (fun _ _ _ h k => h.ext k) (fun _ _ h => h.size) ?_ trivial ?_ ?_
      · intro t ht vs w w' h hE
        simp only [List.mem_cons, List.not_mem_nil, or_false] at ht
        rcases ht with rfl | rfl | rfl | rfl | rfl
        · exact h
        · exact h
        · exact h
        · exact h
        · exact h
      ·
        refine Rg.cons 0 1 rfl (Rg.plain rfl ?_) ?_
        · intro vs W n hn hI hG hT hF K hK
          simp only [Rg.putsD, List.getD_cons_zero, List.getD_cons_succ, Act.put, List.setIfInBounds_toArray, List.set_cons_zero, List.set_cons_succ] at hK ⊢
          clear hn
          clear hF hI
          have c0 := cell_of_blk (blk_below hG H0.out.1.kf) 0
          simp at c0
          have H := Lib.hid hK
          clear hK hT
          go_simp
          exact H.out _ _ (Below.refl _ _) rfl (fun h => by cases h) trivial
        refine Rg.cons 1 2 rfl (Rg.plain rfl ?_) ?_
        · intro vs W n hn hI hG hT hF K hK
          simp only [Rg.putsD, List.getD_cons_zero, List.getD_cons_succ, Act.put, List.setIfInBounds_toArray, List.set_cons_zero, List.set_cons_succ] at hK ⊢
          clear hn
          clear hF hI
          have t0 : vs 0 = .bool true := hT 0 (by decide)
          simp only [t0] at hK
          have H := Lib.hid hK
          clear hK hT
          go_simp
          exact H.out _ _ (Below.refl _ _) rfl (fun h => by cases h) trivial
        refine Rg.cons 2 3 rfl (Rg.guarded ?_ ?_) ?_
        · intro vs W hT
          have tg : vs 1 = .bool true := hT 1 (by decide)
          simp only [Rg.putsD, List.getD_cons_zero, List.getD_cons_succ, Act.put, List.setIfInBounds_toArray, List.set_cons_zero, List.set_cons_succ, tg]
          rfl
        · intro vs W n hn hI hG hT hF K hK
          simp only [Rg.putsD, List.getD_cons_zero, List.getD_cons_succ, Act.put, List.setIfInBounds_toArray, List.set_cons_zero, List.set_cons_succ] at hK ⊢
          clear hn
          clear hF hI
          have t0 : vs 0 = .bool true := hT 0 (by decide)
          have t1 : vs 1 = .bool true := hT 1 (by decide)
          have c0 := cell_of_blk (blk_below hG H0.out.1.kw) 0
          simp at c0
          simp only [t0, t1] at hK
          have H := Lib.hid hK
          clear hK hT
          go_simp
          exact H.out _ _ (Below.refl _ _) rfl (fun h => by cases h) trivial
        refine Rg.cons 3 4 rfl (Rg.guarded ?_ ?_) ?_
        · intro vs W hT
          have tg : vs 1 = .bool true := hT 1 (by decide)
          simp only [Rg.putsD, List.getD_cons_zero, List.getD_cons_succ, Act.put, List.setIfInBounds_toArray, List.set_cons_zero, List.set_cons_succ, tg]
          rfl
        · intro vs W n hn hI hG hT hF K hK
          simp only [Rg.putsD, List.getD_cons_zero, List.getD_cons_succ, Act.put, List.setIfInBounds_toArray, List.set_cons_zero, List.set_cons_succ] at hK ⊢
          clear hn
          clear hF hI
          have t0 : vs 0 = .bool true := hT 0 (by decide)
          have t1 : vs 1 = .bool true := hT 1 (by decide)
          have t2 : vs 2 = .slice (some ⟨gw, 0, none⟩) ms.length cw := hT 2 (by decide)
          have HG := Lib.hid hG
          clear hG
          simp only [t0, t1, t2] at hK
          have H := Lib.hid hK
          clear hK hT
          go_simp
          refine (HCM.out _ (own_below (w := w0.drew) H0.out.1.rc.drew HG.out)).mono ?_
          rintro e w6 ⟨rfl, rfl⟩
          exact H.out _ _ (Below.refl _ _) rfl (fun h => by cases h) trivial
        refine Rg.cons 4 5 rfl (Rg.guarded ?_ ?_) ?_
        · intro vs W hT
          have tg : vs 1 = .bool true := hT 1 (by decide)
          simp only [Rg.putsD, List.getD_cons_zero, List.getD_cons_succ, Act.put, List.setIfInBounds_toArray, List.set_cons_zero, List.set_cons_succ, tg]
          rfl
        · intro vs W n hn hI hG hT hF K hK
          simp only [Rg.putsD, List.getD_cons_zero, List.getD_cons_succ, Act.put, List.setIfInBounds_toArray, List.set_cons_zero, List.set_cons_succ] at hK ⊢
          clear hn
          clear hF hI
          have t0 : vs 0 = .bool true := hT 0 (by decide)
          have t1 : vs 1 = .bool true := hT 1 (by decide)
          have c0 := cell_of_blk (blk_below hG H0.out.1.kl) 0
          simp [accX] at c0
          simp only [t0, t1] at hK
          have H := Lib.hid hK
          clear hK hT
          go_simp
          exact H.out _ _ (Below.refl _ _) rfl (fun h => by cases h) trivial
        exact Rg.nil
      · intro vs W hG hI hT hF
        have t0 : vs 0 = .bool true := hT 0 (by decide)
        have t1 : vs 1 = .bool true := hT 1 (by decide)
        have t2 : vs 2 = .slice (some ⟨gw, 0, none⟩) ms.length cw := hT 2 (by decide)
        have t3 : vs 3 = .int .i64 X := hT 3 (by decide)
        have t4 : vs 4 = .int .i64 x := hT 4 (by decide)
        simp only [List.length_cons, List.length_nil, Nat.reduceAdd, List.range, List.range.loop, List.drop_succ_cons, List.drop_zero, Rg.putsD, List.getD_cons_zero, List.getD_cons_succ, Act.put, List.setIfInBounds_toArray, List.set_cons_zero, List.set_cons_succ, t0, t1, t2, t3, t4]
        clear hT t0 t1 t2 t3 t4
        have H1 : Hid (BW w ⟨bm, bn, gp, bp, bb, bl, bf, gy, bk, gw, bw, bt, cw⟩ ns.length ms.length (.slice Am ms.length cm) (.slice An ns.length cn) P (cntL ms pre) (cyL ms ns (toZ pre)) (some (b, x)) W ∧ KB bt w0 W) := ⟨H0.out.1.drew.below hG, KB.of_below ((Below.refl _ _).drew.then_below hG (Nat.le_refl _))⟩
        clear hF hI hG H0 HCM
        go_wp2_with fail
        go_meet
        exact ⟨rfl, H1⟩
  case rest =>
    obtain ⟨rfl, H1⟩ := hcut
    clear H0
    cases hcut : cutB acc (mxP ms ns pre)
    rotate_left
    · have HF := Lib.hid (tr_cut (K := ms.length) (ok := okP ms ns) hcut f)
      clear hcut
      go_wp2_with fail
      refine bodyPost_ret (v := .tuple #[]) (by unfold results; simp only [Tryz.results44]; go_simp) rfl ⟨rfl, by rw [HF.out]; exact ⟨P, HPL.out.1, HPL.out.2, H1.out.1⟩, H1.out.2⟩
    · have HCT := Lib.hid hcut
      clear hcut
      have c1 := cell_of_blk H1.out.1.kn 0
      simp at c1
      have l1 := lt_of_blk H1.out.1.kn
      dsimp only at c1 l1
      cases f with
      | zero =>
        have hne : ((pre.length : Int) == (ns.length : Int)) = true := beq_iff_eq.mpr (by omega)
        have HF : Hid (tr ms.length (okP ms ns) (mxP ms ns) 0 pre acc = some (pre, mxP ms ns pre)) := by show _ = _; rw [tr, HCT.out]; rfl
        go_upto_region 2 with (fail)
        generalize mxP ms ns pre = X at *
        clear c1 l1 hne
        have HCL : Hid (∀ (W : World), W.ownsRow w.heap.size 3 1 (.slice (some ⟨gp, 0, none⟩) ns.length ns.length) ns.length (P.map (Value.int .i64)) → Calls Tryz.prog 46 #[.slice (some ⟨gp, 0, none⟩) ns.length ns.length] W fun e w' => ∃ v', e = .returned v' ∧ w'.ownsRow W.heap.size 3 1 v' pre.length ((toZ pre).map (Value.int .i64)) ∧ Below W.heap.size W w') := fun W hW => by
          have hPe : P = toZ pre := by
            have := HPL.out.2
            rw [List.take_of_length_le (by have := HPL.out.1; omega)] at this
            exact this
          have h := cloneR_any P (by have := HPL.out.1; omega) (readsN_own' hW HPL.out.1.symm)
          rw [hPe, toZ_len] at h
          exact h
        refine Rg.rgL (fun a b => Below a.heap.size a b)
          [(fun vs u => vs 0 = .slice (some ⟨gp, 0, none⟩) ns.length ns.length), (fun vs u => ∃ v : Value, vs 1 = v ∧ u.ownsRow (bt + 1) 3 1 v pre.length ((toZ pre).map (Value.int .i64))), (fun vs u => vs 2 = .slice (some ⟨gw, 0, none⟩) ms.length cw)]
          [[], [0], []] [some 24, some 25, some 26, some 27, none, none, none] [] (fun _ _ => True) [[], [0], [], [0, 1, 2], [0, 1, 2, 3], [0, 1, 2, 3, 4], [0, 1, 2, 3, 4, 5]]
          (by kernel_rfl) (by decide) (by kernel_rfl) (by kernel_rfl) (by kernel_rfl) (by kernel_rfl) (by kernel_rfl) (fun _ => Below.refl _ _) (fun _ _ _ h k => h.ext k) (fun _ _ h => h.size) ?_ trivial ?_ ?_
        · intro t ht vs w w' h hE
          simp only [List.mem_cons, List.not_mem_nil, or_false] at ht
          rcases ht with rfl | rfl | rfl
          · exact h
          · obtain ⟨v, e, k⟩ := h
            exact ⟨v, e, own_below k hE⟩
          · exact h
        ·
          refine Rg.cons 0 1 rfl (Rg.plain rfl ?_) ?_
          · intro vs W n hn hI hG hT hF K hK
            simp only [Rg.putsD, List.getD_cons_zero, List.getD_cons_succ, Act.put, List.setIfInBounds_toArray, List.set_cons_zero, List.set_cons_succ] at hK ⊢
            clear hn
            clear hF hI
            have c0 := cell_of_blk (blk_below hG H1.out.1.kp) 0
            simp at c0
            have H := Lib.hid hK
            clear hK hT
            go_simp
            exact H.out _ _ (Below.refl _ _) rfl (fun h => by cases h) trivial
          refine Rg.cons 1 2 rfl (Rg.plain rfl ?_) ?_
          · intro vs W n hn hI hG hT hF K hK
            simp only [Rg.putsD, List.getD_cons_zero, List.getD_cons_succ, Act.put, List.setIfInBounds_toArray, List.set_cons_zero, List.set_cons_succ] at hK ⊢
            clear hn
            clear hF hI
            have t0 : vs 0 = .slice (some ⟨gp, 0, none⟩) ns.length ns.length := hT 0 (by decide)
            have HG := Lib.hid hG
            clear hG
            simp only [t0] at hK
            have H := Lib.hid hK
            clear hK hT
            go_simp
            refine (HCL.out _ (own_below (w := wc.drew) H1.out.1.rp.drew HG.out)).mono ?_
            rintro e w6 ⟨v9, rfl, o9, b6⟩
            exact H.out _ _ b6 ⟨_, rfl, own_mono o9 (by have h1 := HG.out.size; have h2 := lt_of_blk H1.out.1.kt; have h3 : wc.drew.heap.size = wc.heap.size := rfl; dsimp only at h2; omega)⟩ (fun h => by cases h) trivial
          refine Rg.cons 2 3 rfl (Rg.plain rfl ?_) ?_
          · intro vs W n hn hI hG hT hF K hK
            simp only [Rg.putsD, List.getD_cons_zero, List.getD_cons_succ, Act.put, List.setIfInBounds_toArray, List.set_cons_zero, List.set_cons_succ] at hK ⊢
            clear hn
            clear hF hI
            have c0 := cell_of_blk (blk_below hG H1.out.1.kw) 0
            simp at c0
            have H := Lib.hid hK
            clear hK hT
            go_simp
            exact H.out _ _ (Below.refl _ _) rfl (fun h => by cases h) trivial
          exact Rg.nil
        · intro vs W hG hI hT hF
          have t0 : vs 0 = .slice (some ⟨gp, 0, none⟩) ns.length ns.length := hT 0 (by decide)
          have t1 : ∃ v : Value, vs 1 = v ∧ W.ownsRow (bt + 1) 3 1 v pre.length ((toZ pre).map (Value.int .i64)) := hT 1 (by decide)
          have t2 : vs 2 = .slice (some ⟨gw, 0, none⟩) ms.length cw := hT 2 (by decide)
          simp only [List.length_cons, List.length_nil, Nat.reduceAdd, List.range, List.range.loop, List.drop_succ_cons, List.drop_zero, Rg.putsD, List.getD_cons_zero, List.getD_cons_succ, Act.put, List.setIfInBounds_toArray, List.set_cons_zero, List.set_cons_succ, t0, t2]
          clear hT t0 t2
          obtain ⟨v1, e1, o1⟩ := t1
          obtain ⟨A9, c9, rfl, _⟩ := own_form o1
          simp only [e1] at *
          have H2 : Hid (BW w ⟨bm, bn, gp, bp, bb, bl, bf, gy, bk, gw, bw, bt, cw⟩ ns.length ms.length (.slice Am ms.length cm) (.slice An ns.length cn) P (cntL ms pre) (cyL ms ns (toZ pre)) acc W ∧ KB bt w0 W) := ⟨H1.out.1.drew.below hG, H1.out.2.below ((Below.refl _ _).drew.then_below hG (Nat.le_refl _))⟩
          have HO := Lib.hid o1
          clear hF hI hG H1 HCL o1
          go_wp2_with fail
          refine (HCM.out _ H2.out.1.rc).mono ?_
          rintro e w6 ⟨rfl, rfl⟩
          obtain ⟨bv, kb, _⟩ := H2.out.1.kb
          have kl := H2.out.1.kl
          have kf := H2.out.1.kf
          dsimp only at kb kl kf
          have f1 := frozen_of_blk kb 0
          have f2 := frozen_of_blk kl 0
          have f3 := frozen_of_blk kf 0
          have l1 := lt_of_blk kb
          have l2 := lt_of_blk kl
          have l3 := lt_of_blk kf
          have c1 := cell_of_blk kb 0
          have c2 := cell_of_blk kl 0
          have c3 := cell_of_blk kf 0
          simp at c1 c2 c3
          have HE : Hid (BW w ⟨bm, bn, gp, bp, bb, bl, bf, gy, bk, gw, bw, bt, cw⟩ ns.length ms.length (.slice Am ms.length cm) (.slice An ns.length cn) P (cntL ms pre) (cyL ms ns (toZ pre)) (some (pre, X)) (((W.setCell ⟨bb, 0, none⟩ (.slice A9 pre.length c9)).setCell ⟨bl, 0, none⟩ (.int .i64 X)).setCell ⟨bf, 0, none⟩ (.bool true)) ∧ KB bt w0 (((W.setCell ⟨bb, 0, none⟩ (.slice A9 pre.length c9)).setCell ⟨bl, 0, none⟩ (.int .i64 X)).setCell ⟨bf, 0, none⟩ (.bool true))) :=
            ⟨H2.out.1.found X HO.out, ((H2.out.2.set (by show bb ≤ _; omega) _).set (by show bl ≤ _; omega) _).set (by show bf ≤ _; omega) _⟩
          clear kb kl kf H2 HO
          go_wp2_with fail
          refine bodyPost_ret (v := .tuple #[]) (by unfold results; simp only [Tryz.results44]; go_simp) rfl ⟨rfl, by rw [HF.out]; exact ⟨P, HPL.out.1, HPL.out.2, HE.out.1⟩, HE.out.2⟩
      | succ f =>
        have hne : ((pre.length : Int) == (ns.length : Int)) = false := beq_eq_false_iff_ne.mpr (by omega)
        have HF : Hid (tr ms.length (okP ms ns) (mxP ms ns) (f + 1) pre acc = trK ms.length (okP ms ns) (mxP ms ns) f pre ms.length acc) := by show _ = _; rw [tr, HCT.out]; rfl
        have HIF := Lib.hid (HIH.out f rfl)
        have hpl : pre.length < ns.length := by omega
        obtain ⟨g2, e2, hg2, n0, n1⟩ := readsD_at HR.out.2 hpl
        cases e2
        have hma := HN.out.many _ (List.getElem_mem hpl)
        go_upto_region 3 with (fail)
        clear c1 l1 hne HIH HCT
        have c2 := cell_of_blk H1.out.1.km 0
        simp at c2
        have l2 := lt_of_blk H1.out.1.km
        dsimp only at c2 l2
        obtain ⟨part, hpart⟩ : ∃ x, ns[pre.length].part = x := ⟨_, rfl⟩
        obtain ⟨many, hmany⟩ : ∃ x, ns[pre.length].many = x := ⟨_, rfl⟩
        rw [hpart] at n0
        rw [hmany] at n1 hma
        have HND := Lib.hid (And.intro n0 n1)
        have HPM := Lib.hid (And.intro hpart hmany)
        clear n0 n1 hpart hmany HCM
        go_wp2_with fail
        clear c2 l2
        go_loopw [30] (fun kk wr => ∃ t : Nat, t ≤ ms.length ∧ kk = .int .i64 t ∧ Hid (BV w ⟨bm, bn, gp, bp, bb, bl, bf, gy, bk, gw, bw, bt, cw⟩ ms ns (.slice Am ms.length cm) (.slice (some ⟨g2, 0, none⟩) ns.length cn) pre (trK ms.length (okP ms ns) (mxP ms ns) f pre t acc) wr ∧ KB bt w0 wr)) (fun kk _ => ms.length - (intOf kk).toNat)
        case atStart => exact ⟨0, by omega, rfl, by rw [trK]; exact ⟨P, HPL.out.1, HPL.out.2, H1.out.1⟩, H1.out.2⟩
        case round =>
          obtain ⟨t, ht, rfl, HS⟩ := hrel
          by_cases htm : t < ms.length
          · have HTK : Hid (trK ms.length (okP ms ns) (mxP ms ns) f pre (t + 1) acc = if okP ms ns pre t = true then tr ms.length (okP ms ns) (mxP ms ns) f (pre ++ [t]) (trK ms.length (okP ms ns) (mxP ms ns) f pre t acc) else trK ms.length (okP ms ns) (mxP ms ns) f pre t acc) := by show _ = _; rw [trK]
            have HRS := Lib.hid (fun h => (right_snoc (ms := ms) (ns := ns) (pre := pre) (k := t)).mpr ⟨HRI.out, htm, h⟩)
            obtain ⟨PS, hPS1, hPS2, hPS3⟩ := HS.out.1
            have hkb := HS.out.2
            generalize trK ms.length (okP ms ns) (mxP ms ns) f pre t acc = acc1 at *
            have HQ : Hid (BW w ⟨bm, bn, gp, bp, bb, bl, bf, gy, bk, gw, bw, bt, cw⟩ ns.length ms.length (.slice Am ms.length cm) (.slice (some ⟨g2, 0, none⟩) ns.length cn) PS (cntL ms pre) (cyL ms ns (toZ pre)) acc1 wr ∧ KB bt w0 wr) := ⟨hPS3, hkb⟩
            have HPS := Lib.hid (And.intro hPS1 hPS2)
            clear hPS1 hPS2 hPS3 hkb HS H1
            obtain ⟨g1, e1, hg1, q0, q1, q2, q3, u, q4, hu⟩ := (HR.out.1.below HQ.out.1.bel).at_ htm
            cases e1
            obtain ⟨A4, c4, rfl, hu2⟩ := hu
            have HU : Hid (ReadsF base encS (.slice A4 ms[t].can.length c4) ms[t].can wr) := ⟨A4, c4, rfl, hu2⟩
            have hmo := HM.out.ok _ (List.getElem_mem htm)
            have hfew := hmo.few
            have hct := HRI.out.2.2 t htm
            rw [mcA_at htm] at hct
            have hok : okP ms ns pre t = (decide (((pre.count t : Nat) : Int) < ms[t].feed) && has ms[t].can part) := by
              unfold okP
              rw [mcA_at htm, ndA_at hpl, HPM.out.1]
            have HOK := Lib.hid hok
            have hcy := cyOf_bound hmo t (toZ pre) HN.out
            obtain ⟨hea, hfi, hfe, _, _⟩ := hmo
            obtain ⟨d, hd⟩ : ∃ d, ms[t].each * many = d := ⟨_, rfl⟩
            have hd1 : 0 ≤ d := by rw [← hd]; exact Int.mul_nonneg hea.1 (by omega)
            have hd2 : d ≤ 10000000 * 1000 := by rw [← hd]; exact Int.mul_le_mul hea.2 hma.2 (by omega) (by omega)
            have HCS : Hid ((cyL ms ns (toZ pre)).set t (cyOf ms[t] t (toZ pre) ns + d) = cyL ms ns (toZ (pre ++ [t]))) := by
              show _ = _
              rw [← cyL_set ms hpl htm, HPM.out.2, hd]
            have HCB : Hid ((cyL ms ns (toZ (pre ++ [t]))).set t (cyOf ms[t] t (toZ pre) ns + d - d) = cyL ms ns (toZ pre)) := by
              show _ = _
              rw [← cyL_back ms hpl htm, HPM.out.2, hd]
            have HYS := Lib.hid (cntL_set ms pre htm)
            have HYB := Lib.hid (cntL_back ms pre htm)
            have HCY : Hid (∀ W : World, W.ownsRow w.heap.size 3 1 (.slice (some ⟨gy, 0, none⟩) ms.length ms.length) ms.length ((cntL ms pre).map (Value.int .i64)) → W.cell? ⟨gy, t, none⟩ = some (.int .i64 ((pre.count t : Nat) : Int))) := fun W h => by
              rw [own_cell h (j := t) (by rw [cntL_len]; exact htm) (cntL_len _ _), cntL_at _ _ htm]
            have HCY1 : Hid (∀ W : World, W.ownsRow w.heap.size 3 1 (.slice (some ⟨gy, 0, none⟩) ms.length ms.length) ms.length ((cntL ms (pre ++ [t])).map (Value.int .i64)) → W.cell? ⟨gy, t, none⟩ = some (.int .i64 (((pre.count t : Nat) : Int) + 1))) := fun W h => by
              rw [own_cell h (j := t) (by rw [cntL_len]; exact htm) (cntL_len _ _), cntL_at _ _ htm, cnt_self]
            have HCC : Hid (∀ W : World, W.ownsRow w.heap.size 3 1 (.slice (some ⟨gw, 0, none⟩) ms.length cw) ms.length ((cyL ms ns (toZ pre)).map (Value.int .i64)) → W.cell? ⟨gw, t, none⟩ = some (.int .i64 (cyOf ms[t] t (toZ pre) ns))) := fun W h => by
              rw [own_cell h (j := t) (by rw [cyL_len]; exact htm) (cyL_len _ _ _), cyL_at _ _ _ htm]
            have HCC1 : Hid (∀ W : World, W.ownsRow w.heap.size 3 1 (.slice (some ⟨gw, 0, none⟩) ms.length cw) ms.length ((cyL ms ns (toZ (pre ++ [t]))).map (Value.int .i64)) → W.cell? ⟨gw, t, none⟩ = some (.int .i64 (cyOf ms[t] t (toZ pre) ns + d))) := fun W h => by
              rw [own_cell h (j := t) (by rw [cyL_len]; exact htm) (cyL_len _ _ _), cyL_at _ _ _ htm, cyOf_self _ _ hpl, HPM.out.2, hd]
            rw [hok] at HTK HRS
            have HDE := Lib.hid hd
            clear hok hd HM HN hu2
            generalize cyOf ms[t] t (toZ pre) ns = cy at *
            have hct0 : (0 : Int) ≤ ((pre.count t : Nat) : Int) := by omega
            generalize ((pre.count t : Nat) : Int) = ct at *
            generalize ms[t] = m at *
            obtain ⟨key, each, fixed, feed, can⟩ := m
            dsimp only at q0 q1 q2 q3 q4 hea hfi hfe hct HU HTK HRS HOK HDE hfew
            have i1 : (0 : Int) ≤ (t : Int) := by omega
            have i2 : (t : Int) < (ms.length : Int) := by omega
            have i3 : (0 : Int) ≤ (pre.length : Int) := by omega
            have i4 : (pre.length : Int) < (ns.length : Int) := by omega
            have hbtx : bt < wr.heap.size := lt_of_blk HQ.out.1.kt
            have H5 : Hid (BW w ⟨bm, bn, gp, bp, bb, bl, bf, gy, bk, gw, bw, bt, cw⟩ ns.length ms.length (.slice (some ⟨g1, 0, none⟩) ms.length cm) (.slice (some ⟨g2, 0, none⟩) ns.length cn) PS (cntL ms pre) (cyL ms ns (toZ pre)) acc1 (wr.alloc (.cells #[.string key, .int .i64 each, .int .i64 fixed, .int .i64 feed, .slice A4 can.length c4] 57)) ∧ KB bt w0 (wr.alloc (.cells #[.string key, .int .i64 each, .int .i64 fixed, .int .i64 feed, .slice A4 can.length c4] 57)) ∧ (wr.alloc (.cells #[.string key, .int .i64 each, .int .i64 fixed, .int .i64 feed, .slice A4 can.length c4] 57)).heap[wr.heap.size]? = some (.cells #[.string key, .int .i64 each, .int .i64 fixed, .int .i64 feed, .slice A4 can.length c4] 57 (0, 0)) ∧ ReadsF base encS (.slice A4 can.length c4) can (wr.alloc (.cells #[.string key, .int .i64 each, .int .i64 fixed, .int .i64 feed, .slice A4 can.length c4] 57))) :=
              ⟨HQ.out.1.below ((Below.refl _ _).alloc (Nat.le_refl _) _), HQ.out.2.below ((Below.refl _ _).alloc (Nat.le_refl _) _), blk_new wr _ rfl, HU.out.below ((Below.refl _ _).alloc (Nat.le_refl _) _)⟩
            go_upto_region 6 with (fail)
            generalize wr.alloc (.cells #[.string key, .int .i64 each, .int .i64 fixed, .int .i64 feed, .slice A4 can.length c4] 57) = wx at *
            obtain ⟨gx, hgx⟩ : ∃ gx, wr.heap.size = gx := ⟨_, rfl⟩
            rw [hgx] at H5 hbtx ⊢
            clear hgx q0 q1 q2 q3 q4 HQ HU hg1
            go_cut [52] (fun v wc => v = .bool (!(decide (ct < feed) && has can part)) ∧ Hid (BW w ⟨bm, bn, gp, bp, bb, bl, bf, gy, bk, gw, bw, bt, cw⟩ ns.length ms.length (.slice (some ⟨g1, 0, none⟩) ms.length cm) (.slice (some ⟨g2, 0, none⟩) ns.length cn) PS (cntL ms pre) (cyL ms ns (toZ pre)) acc1 wc ∧ KB bt w0 wc ∧ wc.heap[gx]? = some (.cells #[.string key, .int .i64 each, .int .i64 fixed, .int .i64 feed, .slice A4 can.length c4] 57 (0, 0))))
            case first =>
              by_cases hfe2 : ct = feed
              · have he : (ct == feed) = true := beq_iff_eq.mpr hfe2
                have HD : Hid (decide (ct < feed) = false) := decide_eq_false (by omega)
                clear hfe2
                refine Rg.rgL (fun a b => Below a.heap.size a b)
                  [(fun vs u => vs 0 = .slice (some ⟨gy, 0, none⟩) ms.length ms.length), (fun vs u => vs 1 = .int .i64 t), (fun vs u => vs 2 = .pointer (some ⟨gy, t, none⟩)), (fun vs u => vs 3 = .int .i64 ct), (fun vs u => vs 4 = .pointer (some ⟨gx, 3, none⟩)), (fun vs u => vs 5 = .int .i64 feed), (fun vs u => vs 6 = .bool true), (fun vs u => vs 7 = .bool true), (fun vs u => vs 8 = undef), (fun vs u => vs 9 = undef), (fun vs u => vs 10 = undef), (fun vs u => vs 11 = undef), (fun vs u => vs 12 = undef), (fun vs u => vs 13 = undef), (fun vs u => vs 14 = undef)]
                  [[], [], [0, 1], [0, 1, 2], [], [4], [0, 1, 2, 3, 4, 5], [0, 1, 2, 3, 4, 5, 6], [0, 1, 2, 3, 4, 5, 6, 7], [0, 1, 2, 3, 4, 5, 6, 7, 8], [0, 1, 2, 3, 4, 5, 6, 7], [0, 1, 2, 3, 4, 5, 6, 7], [0, 1, 2, 3, 4, 5, 6, 7, 10, 11], [0, 1, 2, 3, 4, 5, 6, 7, 10, 11, 12], [0, 1, 2, 3, 4, 5, 6, 7, 10, 11, 12, 13]] [some 35, some 36, some 37, some 38, some 39, some 40, some 41, some 42, some 43, some 44, some 45, some 46, some 47, some 48, some 49, some 50, some 51, some 52] [] (fun _ _ => True) [[], [], [0, 1], [0, 1, 2], [], [4], [0, 1, 2, 3, 4, 5], [0, 1, 2, 3, 4, 5, 6], [0, 1, 2, 3, 4, 5, 6, 7], [0, 1, 2, 3, 4, 5, 6, 7, 8], [0, 1, 2, 3, 4, 5, 6, 7], [0, 1, 2, 3, 4, 5, 6, 7], [0, 1, 2, 3, 4, 5, 6, 7, 10, 11], [0, 1, 2, 3, 4, 5, 6, 7, 10, 11, 12], [0, 1, 2, 3, 4, 5, 6, 7, 10, 11, 12, 13], [0, 1, 2, 3, 4, 5, 6, 7, 8, 9, 10, 11, 12, 13, 14], [0, 1, 2, 3, 4, 5, 6, 7, 8, 9, 10, 11, 12, 13, 14, 15], [0, 1, 2, 3, 4, 5, 6, 7, 8, 9, 10, 11, 12, 13, 14, 15, 16]]
                  (by kernel_rfl) (by decide) (by kernel_rfl) (by kernel_rfl) (by kernel_rfl) (by kernel_rfl) (by kernel_rfl) (fun _ => Below.refl _ _) (fun _ _ _ h k => h.ext k) (fun _ _ h => h.size) ?_ trivial ?_ ?_
                · intro t ht vs w w' h hE
                  simp only [List.mem_cons, List.not_mem_nil, or_false] at ht
                  rcases ht with rfl | rfl | rfl | rfl | rfl | rfl | rfl | rfl | rfl | rfl | rfl | rfl | rfl | rfl | rfl
                  · exact h
                  · exact h
                  · exact h
                  · exact h
                  · exact h
                  · exact h
                  · exact h
                  · exact h
                  · exact h
                  · exact h
                  · exact h
                  · exact h
                  · exact h
                  · exact h
                  · exact h
                ·
                  refine Rg.cons 0 1 rfl (Rg.plain rfl ?_) ?_
                  · intro vs W n hn hI hG hT hF K hK
                    simp only [Rg.putsD, List.getD_cons_zero, List.getD_cons_succ, Act.put, List.setIfInBounds_toArray, List.set_cons_zero, List.set_cons_succ] at hK ⊢
                    clear hn
                    clear hF hI
                    have c0 := cell_of_blk (blk_below hG H5.out.1.ky) 0
                    simp at c0
                    have H := Lib.hid hK
                    clear hK hT
                    go_simp
                    exact H.out _ _ (Below.refl _ _) rfl (fun h => by cases h) trivial
                  refine Rg.cons 1 2 rfl (Rg.plain rfl ?_) ?_
                  · intro vs W n hn hI hG hT hF K hK
                    simp only [Rg.putsD, List.getD_cons_zero, List.getD_cons_succ, Act.put, List.setIfInBounds_toArray, List.set_cons_zero, List.set_cons_succ] at hK ⊢
                    clear hn
                    clear hF hI
                    have H := Lib.hid hK
                    clear hK hT
                    go_simp
                    exact H.out _ _ (Below.refl _ _) rfl (fun h => by cases h) trivial
                  refine Rg.cons 2 3 rfl (Rg.plain rfl ?_) ?_
                  · intro vs W n hn hI hG hT hF K hK
                    simp only [Rg.putsD, List.getD_cons_zero, List.getD_cons_succ, Act.put, List.setIfInBounds_toArray, List.set_cons_zero, List.set_cons_succ] at hK ⊢
                    clear hn
                    clear hF hI
                    have t0 : vs 0 = .slice (some ⟨gy, 0, none⟩) ms.length ms.length := hT 0 (by decide)
                    have t1 : vs 1 = .int .i64 t := hT 1 (by decide)
                    simp only [t0, t1] at hK
                    have H := Lib.hid hK
                    clear hK hT
                    go_simp
                    exact H.out _ _ (Below.refl _ _) rfl (fun h => by cases h) trivial
                  refine Rg.cons 3 4 rfl (Rg.plain rfl ?_) ?_
                  · intro vs W n hn hI hG hT hF K hK
                    simp only [Rg.putsD, List.getD_cons_zero, List.getD_cons_succ, Act.put, List.setIfInBounds_toArray, List.set_cons_zero, List.set_cons_succ] at hK ⊢
                    clear hn
                    clear hF hI
                    have t0 : vs 0 = .slice (some ⟨gy, 0, none⟩) ms.length ms.length := hT 0 (by decide)
                    have t1 : vs 1 = .int .i64 t := hT 1 (by decide)
                    have t2 : vs 2 = .pointer (some ⟨gy, t, none⟩) := hT 2 (by decide)
                    have d3 := HCY.out W (H5.out.1.drew.below hG).ry
                    have l3 : gy < W.heap.size := own_glt (H5.out.1.drew.below hG).ry
                    simp only [t0, t1, t2] at hK
                    have H := Lib.hid hK
                    clear hK hT
                    go_simp
                    exact H.out _ _ (Below.refl _ _) rfl (fun h => by cases h) trivial
                  refine Rg.cons 4 5 rfl (Rg.plain rfl ?_) ?_
                  · intro vs W n hn hI hG hT hF K hK
                    simp only [Rg.putsD, List.getD_cons_zero, List.getD_cons_succ, Act.put, List.setIfInBounds_toArray, List.set_cons_zero, List.set_cons_succ] at hK ⊢
                    clear hn
                    clear hF hI
                    have H := Lib.hid hK
                    clear hK hT
                    go_simp
                    exact H.out _ _ (Below.refl _ _) rfl (fun h => by cases h) trivial
                  refine Rg.cons 5 6 rfl (Rg.plain rfl ?_) ?_
                  · intro vs W n hn hI hG hT hF K hK
                    simp only [Rg.putsD, List.getD_cons_zero, List.getD_cons_succ, Act.put, List.setIfInBounds_toArray, List.set_cons_zero, List.set_cons_succ] at hK ⊢
                    clear hn
                    clear hF hI
                    have t4 : vs 4 = .pointer (some ⟨gx, 3, none⟩) := hT 4 (by decide)
                    obtain ⟨d0, d1, d2, d3, d4⟩ := blk5 (blk_below hG H5.out.2.2.1)
                    have l8 := lt_of_blk (blk_below hG H5.out.2.2.1)
                    simp only [t4] at hK
                    have H := Lib.hid hK
                    clear hK hT
                    go_simp
                    exact H.out _ _ (Below.refl _ _) rfl (fun h => by cases h) trivial
                  refine Rg.cons 6 7 rfl (Rg.plain rfl ?_) ?_
                  · intro vs W n hn hI hG hT hF K hK
                    simp only [Rg.putsD, List.getD_cons_zero, List.getD_cons_succ, Act.put, List.setIfInBounds_toArray, List.set_cons_zero, List.set_cons_succ] at hK ⊢
                    clear hn
                    clear hF hI
                    have t0 : vs 0 = .slice (some ⟨gy, 0, none⟩) ms.length ms.length := hT 0 (by decide)
                    have t1 : vs 1 = .int .i64 t := hT 1 (by decide)
                    have t2 : vs 2 = .pointer (some ⟨gy, t, none⟩) := hT 2 (by decide)
                    have t3 : vs 3 = .int .i64 ct := hT 3 (by decide)
                    have t4 : vs 4 = .pointer (some ⟨gx, 3, none⟩) := hT 4 (by decide)
                    have t5 : vs 5 = .int .i64 feed := hT 5 (by decide)
                    simp only [t0, t1, t2, t3, t4, t5] at hK
                    have H := Lib.hid hK
                    clear hK hT
                    go_simp
                    exact H.out _ _ (Below.refl _ _) rfl (fun h => by cases h) trivial
                  refine Rg.cons 7 8 rfl (Rg.plain rfl ?_) ?_
                  · intro vs W n hn hI hG hT hF K hK
                    simp only [Rg.putsD, List.getD_cons_zero, List.getD_cons_succ, Act.put, List.setIfInBounds_toArray, List.set_cons_zero, List.set_cons_succ] at hK ⊢
                    clear hn
                    clear hF hI
                    have t0 : vs 0 = .slice (some ⟨gy, 0, none⟩) ms.length ms.length := hT 0 (by decide)
                    have t1 : vs 1 = .int .i64 t := hT 1 (by decide)
                    have t2 : vs 2 = .pointer (some ⟨gy, t, none⟩) := hT 2 (by decide)
                    have t3 : vs 3 = .int .i64 ct := hT 3 (by decide)
                    have t4 : vs 4 = .pointer (some ⟨gx, 3, none⟩) := hT 4 (by decide)
                    have t5 : vs 5 = .int .i64 feed := hT 5 (by decide)
                    have t6 : vs 6 = .bool true := hT 6 (by decide)
                    simp only [t0, t1, t2, t3, t4, t5, t6] at hK
                    have H := Lib.hid hK
                    clear hK hT
                    go_simp
                    exact H.out _ _ (Below.refl _ _) rfl (fun h => by cases h) trivial
                  refine Rg.cons 8 9 rfl (Rg.skipped (fun _ => Below.refl _ _) (fun _ _ => rfl) (by decide) (fun _ _ h => h) ?_) ?_
                  · intro vs W hT
                    have tg : vs 7 = .bool true := hT 7 (by decide)
                    simp only [Rg.putsD, List.getD_cons_zero, List.getD_cons_succ, Act.put, List.setIfInBounds_toArray, List.set_cons_zero, List.set_cons_succ, tg]
                    rfl
                  refine Rg.cons 9 10 rfl (Rg.skipped (fun _ => Below.refl _ _) (fun _ _ => rfl) (by decide) (fun _ _ h => h) ?_) ?_
                  · intro vs W hT
                    have tg : vs 7 = .bool true := hT 7 (by decide)
                    simp only [Rg.putsD, List.getD_cons_zero, List.getD_cons_succ, Act.put, List.setIfInBounds_toArray, List.set_cons_zero, List.set_cons_succ, tg]
                    rfl
                  refine Rg.cons 10 11 rfl (Rg.skipped (fun _ => Below.refl _ _) (fun _ _ => rfl) (by decide) (fun _ _ h => h) ?_) ?_
                  · intro vs W hT
                    have tg : vs 7 = .bool true := hT 7 (by decide)
                    simp only [Rg.putsD, List.getD_cons_zero, List.getD_cons_succ, Act.put, List.setIfInBounds_toArray, List.set_cons_zero, List.set_cons_succ, tg]
                    rfl
                  refine Rg.cons 11 12 rfl (Rg.skipped (fun _ => Below.refl _ _) (fun _ _ => rfl) (by decide) (fun _ _ h => h) ?_) ?_
                  · intro vs W hT
                    have tg : vs 7 = .bool true := hT 7 (by decide)
                    simp only [Rg.putsD, List.getD_cons_zero, List.getD_cons_succ, Act.put, List.setIfInBounds_toArray, List.set_cons_zero, List.set_cons_succ, tg]
                    rfl
                  refine Rg.cons 12 13 rfl (Rg.skipped (fun _ => Below.refl _ _) (fun _ _ => rfl) (by decide) (fun _ _ h => h) ?_) ?_
                  · intro vs W hT
                    have tg : vs 7 = .bool true := hT 7 (by decide)
                    simp only [Rg.putsD, List.getD_cons_zero, List.getD_cons_succ, Act.put, List.setIfInBounds_toArray, List.set_cons_zero, List.set_cons_succ, tg]
                    rfl
                  refine Rg.cons 13 14 rfl (Rg.skipped (fun _ => Below.refl _ _) (fun _ _ => rfl) (by decide) (fun _ _ h => h) ?_) ?_
                  · intro vs W hT
                    have tg : vs 7 = .bool true := hT 7 (by decide)
                    simp only [Rg.putsD, List.getD_cons_zero, List.getD_cons_succ, Act.put, List.setIfInBounds_toArray, List.set_cons_zero, List.set_cons_succ, tg]
                    rfl
                  refine Rg.cons 14 15 rfl (Rg.skipped (fun _ => Below.refl _ _) (fun _ _ => rfl) (by decide) (fun _ _ h => h) ?_) ?_
                  · intro vs W hT
                    have tg : vs 7 = .bool true := hT 7 (by decide)
                    simp only [Rg.putsD, List.getD_cons_zero, List.getD_cons_succ, Act.put, List.setIfInBounds_toArray, List.set_cons_zero, List.set_cons_succ, tg]
                    rfl
                  exact Rg.nil
                · intro vs W hG hI hT hF
                  have t0 : vs 0 = .slice (some ⟨gy, 0, none⟩) ms.length ms.length := hT 0 (by decide)
                  have t1 : vs 1 = .int .i64 t := hT 1 (by decide)
                  have t2 : vs 2 = .pointer (some ⟨gy, t, none⟩) := hT 2 (by decide)
                  have t3 : vs 3 = .int .i64 ct := hT 3 (by decide)
                  have t4 : vs 4 = .pointer (some ⟨gx, 3, none⟩) := hT 4 (by decide)
                  have t5 : vs 5 = .int .i64 feed := hT 5 (by decide)
                  have t6 : vs 6 = .bool true := hT 6 (by decide)
                  have t7 : vs 7 = .bool true := hT 7 (by decide)
                  have t8 : vs 8 = undef := hT 8 (by decide)
                  have t9 : vs 9 = undef := hT 9 (by decide)
                  have t10 : vs 10 = undef := hT 10 (by decide)
                  have t11 : vs 11 = undef := hT 11 (by decide)
                  have t12 : vs 12 = undef := hT 12 (by decide)
                  have t13 : vs 13 = undef := hT 13 (by decide)
                  have t14 : vs 14 = undef := hT 14 (by decide)
                  simp only [List.length_cons, List.length_nil, Nat.reduceAdd, List.range, List.range.loop, List.drop_succ_cons, List.drop_zero, Rg.putsD, List.getD_cons_zero, List.getD_cons_succ, Act.put, List.setIfInBounds_toArray, List.set_cons_zero, List.set_cons_succ, t0, t1, t2, t3, t4, t5, t6, t7, t8, t9, t10, t11, t12, t13, t14]
                  clear hT t0 t1 t2 t3 t4 t5 t6 t7 t8 t9 t10 t11 t12 t13 t14
                  have H6 : Hid (BW w ⟨bm, bn, gp, bp, bb, bl, bf, gy, bk, gw, bw, bt, cw⟩ ns.length ms.length (.slice (some ⟨g1, 0, none⟩) ms.length cm) (.slice (some ⟨g2, 0, none⟩) ns.length cn) PS (cntL ms pre) (cyL ms ns (toZ pre)) acc1 W ∧ KB bt w0 W ∧ W.heap[gx]? = some (.cells #[.string key, .int .i64 each, .int .i64 fixed, .int .i64 feed, .slice A4 can.length c4] 57 (0, 0))) := ⟨H5.out.1.drew.below hG, H5.out.2.1.below ((Below.refl _ _).drew.then_below hG (Nat.le_refl _)), blk_below hG H5.out.2.2.1⟩
                  clear hF hI hG H5 HCY HCY1 HCC HCC1
                  go_wp2_with fail
                  go_meet
                  exact ⟨by rw [HD.out]; rfl, H6⟩
              · have he : (ct == feed) = false := beq_eq_false_iff_ne.mpr hfe2
                have HD : Hid (decide (ct < feed) = true) := decide_eq_true (by omega)
                clear hfe2
                have CP := Lib.hid (fun (W : World) (h : ReadsF base encS (.slice A4 can.length c4) can W) => contains_any part can.length (Nat.le_refl _) (by omega) h c4)
                rw [List.take_of_length_le (Nat.le_refl _)] at CP
                have hln : g2 < w.heap.size := hg2
                refine Rg.rgL (fun a b => Below a.heap.size a b)
                  [(fun vs u => vs 0 = .slice (some ⟨gy, 0, none⟩) ms.length ms.length), (fun vs u => vs 1 = .int .i64 t), (fun vs u => vs 2 = .pointer (some ⟨gy, t, none⟩)), (fun vs u => vs 3 = .int .i64 ct), (fun vs u => vs 4 = .pointer (some ⟨gx, 3, none⟩)), (fun vs u => vs 5 = .int .i64 feed), (fun vs u => vs 6 = .bool false), (fun vs u => vs 7 = .bool false), (fun vs u => vs 8 = .pointer (some ⟨gx, 4, none⟩)), (fun vs u => vs 9 = .slice A4 can.length c4), (fun vs u => vs 10 = .slice (some ⟨g2, 0, none⟩) ns.length cn), (fun vs u => vs 11 = .int .i64 pre.length), (fun vs u => vs 12 = .pointer (some ⟨g2, pre.length * 2, none⟩)), (fun vs u => vs 13 = .pointer (some ⟨g2, pre.length * 2, none⟩)), (fun vs u => vs 14 = .string part)]
                  [[], [], [0, 1], [0, 1, 2], [], [4], [0, 1, 2, 3, 4, 5], [0, 1, 2, 3, 4, 5, 6], [0, 1, 2, 3, 4, 5, 6, 7], [0, 1, 2, 3, 4, 5, 6, 7, 8], [0, 1, 2, 3, 4, 5, 6, 7], [0, 1, 2, 3, 4, 5, 6, 7], [0, 1, 2, 3, 4, 5, 6, 7, 10, 11], [0, 1, 2, 3, 4, 5, 6, 7, 10, 11, 12], [0, 1, 2, 3, 4, 5, 6, 7, 10, 11, 12, 13]] [some 35, some 36, some 37, some 38, some 39, some 40, some 41, some 42, some 43, some 44, some 45, some 46, some 47, some 48, some 49, some 50, some 51, some 52] [] (fun _ _ => True) [[], [], [0, 1], [0, 1, 2], [], [4], [0, 1, 2, 3, 4, 5], [0, 1, 2, 3, 4, 5, 6], [0, 1, 2, 3, 4, 5, 6, 7], [0, 1, 2, 3, 4, 5, 6, 7, 8], [0, 1, 2, 3, 4, 5, 6, 7], [0, 1, 2, 3, 4, 5, 6, 7], [0, 1, 2, 3, 4, 5, 6, 7, 10, 11], [0, 1, 2, 3, 4, 5, 6, 7, 10, 11, 12], [0, 1, 2, 3, 4, 5, 6, 7, 10, 11, 12, 13], [0, 1, 2, 3, 4, 5, 6, 7, 8, 9, 10, 11, 12, 13, 14], [0, 1, 2, 3, 4, 5, 6, 7, 8, 9, 10, 11, 12, 13, 14, 15], [0, 1, 2, 3, 4, 5, 6, 7, 8, 9, 10, 11, 12, 13, 14, 15, 16]]
                  (by kernel_rfl) (by decide) (by kernel_rfl) (by kernel_rfl) (by kernel_rfl) (by kernel_rfl) (by kernel_rfl) (fun _ => Below.refl _ _) (fun _ _ _ h k => h.ext k) (fun _ _ h => h.size) ?_ trivial ?_ ?_
                · intro t ht vs w w' h hE
                  simp only [List.mem_cons, List.not_mem_nil, or_false] at ht
                  rcases ht with rfl | rfl | rfl | rfl | rfl | rfl | rfl | rfl | rfl | rfl | rfl | rfl | rfl | rfl | rfl
                  · exact h
                  · exact h
                  · exact h
                  · exact h
                  · exact h
                  · exact h
                  · exact h
                  · exact h
                  · exact h
                  · exact h
                  · exact h
                  · exact h
                  · exact h
                  · exact h
                  · exact h
                ·
                  refine Rg.cons 0 1 rfl (Rg.plain rfl ?_) ?_
                  · intro vs W n hn hI hG hT hF K hK
                    simp only [Rg.putsD, List.getD_cons_zero, List.getD_cons_succ, Act.put, List.setIfInBounds_toArray, List.set_cons_zero, List.set_cons_succ] at hK ⊢
                    clear hn
                    clear hF hI
                    have c0 := cell_of_blk (blk_below hG H5.out.1.ky) 0
                    simp at c0
                    have H := Lib.hid hK
                    clear hK hT
                    go_simp
                    exact H.out _ _ (Below.refl _ _) rfl (fun h => by cases h) trivial
                  refine Rg.cons 1 2 rfl (Rg.plain rfl ?_) ?_
                  · intro vs W n hn hI hG hT hF K hK
                    simp only [Rg.putsD, List.getD_cons_zero, List.getD_cons_succ, Act.put, List.setIfInBounds_toArray, List.set_cons_zero, List.set_cons_succ] at hK ⊢
                    clear hn
                    clear hF hI
                    have H := Lib.hid hK
                    clear hK hT
                    go_simp
                    exact H.out _ _ (Below.refl _ _) rfl (fun h => by cases h) trivial
                  refine Rg.cons 2 3 rfl (Rg.plain rfl ?_) ?_
                  · intro vs W n hn hI hG hT hF K hK
                    simp only [Rg.putsD, List.getD_cons_zero, List.getD_cons_succ, Act.put, List.setIfInBounds_toArray, List.set_cons_zero, List.set_cons_succ] at hK ⊢
                    clear hn
                    clear hF hI
                    have t0 : vs 0 = .slice (some ⟨gy, 0, none⟩) ms.length ms.length := hT 0 (by decide)
                    have t1 : vs 1 = .int .i64 t := hT 1 (by decide)
                    simp only [t0, t1] at hK
                    have H := Lib.hid hK
                    clear hK hT
                    go_simp
                    exact H.out _ _ (Below.refl _ _) rfl (fun h => by cases h) trivial
                  refine Rg.cons 3 4 rfl (Rg.plain rfl ?_) ?_
                  · intro vs W n hn hI hG hT hF K hK
                    simp only [Rg.putsD, List.getD_cons_zero, List.getD_cons_succ, Act.put, List.setIfInBounds_toArray, List.set_cons_zero, List.set_cons_succ] at hK ⊢
                    clear hn
                    clear hF hI
                    have t0 : vs 0 = .slice (some ⟨gy, 0, none⟩) ms.length ms.length := hT 0 (by decide)
                    have t1 : vs 1 = .int .i64 t := hT 1 (by decide)
                    have t2 : vs 2 = .pointer (some ⟨gy, t, none⟩) := hT 2 (by decide)
                    have d3 := HCY.out W (H5.out.1.drew.below hG).ry
                    have l3 : gy < W.heap.size := own_glt (H5.out.1.drew.below hG).ry
                    simp only [t0, t1, t2] at hK
                    have H := Lib.hid hK
                    clear hK hT
                    go_simp
                    exact H.out _ _ (Below.refl _ _) rfl (fun h => by cases h) trivial
                  refine Rg.cons 4 5 rfl (Rg.plain rfl ?_) ?_
                  · intro vs W n hn hI hG hT hF K hK
                    simp only [Rg.putsD, List.getD_cons_zero, List.getD_cons_succ, Act.put, List.setIfInBounds_toArray, List.set_cons_zero, List.set_cons_succ] at hK ⊢
                    clear hn
                    clear hF hI
                    have H := Lib.hid hK
                    clear hK hT
                    go_simp
                    exact H.out _ _ (Below.refl _ _) rfl (fun h => by cases h) trivial
                  refine Rg.cons 5 6 rfl (Rg.plain rfl ?_) ?_
                  · intro vs W n hn hI hG hT hF K hK
                    simp only [Rg.putsD, List.getD_cons_zero, List.getD_cons_succ, Act.put, List.setIfInBounds_toArray, List.set_cons_zero, List.set_cons_succ] at hK ⊢
                    clear hn
                    clear hF hI
                    have t4 : vs 4 = .pointer (some ⟨gx, 3, none⟩) := hT 4 (by decide)
                    obtain ⟨d0, d1, d2, d3, d4⟩ := blk5 (blk_below hG H5.out.2.2.1)
                    have l8 := lt_of_blk (blk_below hG H5.out.2.2.1)
                    simp only [t4] at hK
                    have H := Lib.hid hK
                    clear hK hT
                    go_simp
                    exact H.out _ _ (Below.refl _ _) rfl (fun h => by cases h) trivial
                  refine Rg.cons 6 7 rfl (Rg.plain rfl ?_) ?_
                  · intro vs W n hn hI hG hT hF K hK
                    simp only [Rg.putsD, List.getD_cons_zero, List.getD_cons_succ, Act.put, List.setIfInBounds_toArray, List.set_cons_zero, List.set_cons_succ] at hK ⊢
                    clear hn
                    clear hF hI
                    have t0 : vs 0 = .slice (some ⟨gy, 0, none⟩) ms.length ms.length := hT 0 (by decide)
                    have t1 : vs 1 = .int .i64 t := hT 1 (by decide)
                    have t2 : vs 2 = .pointer (some ⟨gy, t, none⟩) := hT 2 (by decide)
                    have t3 : vs 3 = .int .i64 ct := hT 3 (by decide)
                    have t4 : vs 4 = .pointer (some ⟨gx, 3, none⟩) := hT 4 (by decide)
                    have t5 : vs 5 = .int .i64 feed := hT 5 (by decide)
                    simp only [t0, t1, t2, t3, t4, t5] at hK
                    have H := Lib.hid hK
                    clear hK hT
                    go_simp
                    exact H.out _ _ (Below.refl _ _) rfl (fun h => by cases h) trivial
                  refine Rg.cons 7 8 rfl (Rg.plain rfl ?_) ?_
                  · intro vs W n hn hI hG hT hF K hK
                    simp only [Rg.putsD, List.getD_cons_zero, List.getD_cons_succ, Act.put, List.setIfInBounds_toArray, List.set_cons_zero, List.set_cons_succ] at hK ⊢
                    clear hn
                    clear hF hI
                    have t0 : vs 0 = .slice (some ⟨gy, 0, none⟩) ms.length ms.length := hT 0 (by decide)
                    have t1 : vs 1 = .int .i64 t := hT 1 (by decide)
                    have t2 : vs 2 = .pointer (some ⟨gy, t, none⟩) := hT 2 (by decide)
                    have t3 : vs 3 = .int .i64 ct := hT 3 (by decide)
                    have t4 : vs 4 = .pointer (some ⟨gx, 3, none⟩) := hT 4 (by decide)
                    have t5 : vs 5 = .int .i64 feed := hT 5 (by decide)
                    have t6 : vs 6 = .bool false := hT 6 (by decide)
                    simp only [t0, t1, t2, t3, t4, t5, t6] at hK
                    have H := Lib.hid hK
                    clear hK hT
                    go_simp
                    exact H.out _ _ (Below.refl _ _) rfl (fun h => by cases h) trivial
                  refine Rg.cons 8 9 rfl (Rg.guarded ?_ ?_) ?_
                  · intro vs W hT
                    have tg : vs 7 = .bool false := hT 7 (by decide)
                    simp only [Rg.putsD, List.getD_cons_zero, List.getD_cons_succ, Act.put, List.setIfInBounds_toArray, List.set_cons_zero, List.set_cons_succ, tg]
                    rfl
                  · intro vs W n hn hI hG hT hF K hK
                    simp only [Rg.putsD, List.getD_cons_zero, List.getD_cons_succ, Act.put, List.setIfInBounds_toArray, List.set_cons_zero, List.set_cons_succ] at hK ⊢
                    clear hn
                    clear hF hI
                    have t0 : vs 0 = .slice (some ⟨gy, 0, none⟩) ms.length ms.length := hT 0 (by decide)
                    have t1 : vs 1 = .int .i64 t := hT 1 (by decide)
                    have t2 : vs 2 = .pointer (some ⟨gy, t, none⟩) := hT 2 (by decide)
                    have t3 : vs 3 = .int .i64 ct := hT 3 (by decide)
                    have t4 : vs 4 = .pointer (some ⟨gx, 3, none⟩) := hT 4 (by decide)
                    have t5 : vs 5 = .int .i64 feed := hT 5 (by decide)
                    have t6 : vs 6 = .bool false := hT 6 (by decide)
                    have t7 : vs 7 = .bool false := hT 7 (by decide)
                    simp only [t0, t1, t2, t3, t4, t5, t6, t7] at hK
                    have H := Lib.hid hK
                    clear hK hT
                    go_simp
                    exact H.out _ _ (Below.refl _ _) rfl (fun h => by cases h) trivial
                  refine Rg.cons 9 10 rfl (Rg.guarded ?_ ?_) ?_
                  · intro vs W hT
                    have tg : vs 7 = .bool false := hT 7 (by decide)
                    simp only [Rg.putsD, List.getD_cons_zero, List.getD_cons_succ, Act.put, List.setIfInBounds_toArray, List.set_cons_zero, List.set_cons_succ, tg]
                    rfl
                  · intro vs W n hn hI hG hT hF K hK
                    simp only [Rg.putsD, List.getD_cons_zero, List.getD_cons_succ, Act.put, List.setIfInBounds_toArray, List.set_cons_zero, List.set_cons_succ] at hK ⊢
                    clear hn
                    clear hF hI
                    have t0 : vs 0 = .slice (some ⟨gy, 0, none⟩) ms.length ms.length := hT 0 (by decide)
                    have t1 : vs 1 = .int .i64 t := hT 1 (by decide)
                    have t2 : vs 2 = .pointer (some ⟨gy, t, none⟩) := hT 2 (by decide)
                    have t3 : vs 3 = .int .i64 ct := hT 3 (by decide)
                    have t4 : vs 4 = .pointer (some ⟨gx, 3, none⟩) := hT 4 (by decide)
                    have t5 : vs 5 = .int .i64 feed := hT 5 (by decide)
                    have t6 : vs 6 = .bool false := hT 6 (by decide)
                    have t7 : vs 7 = .bool false := hT 7 (by decide)
                    have t8 : vs 8 = .pointer (some ⟨gx, 4, none⟩) := hT 8 (by decide)
                    obtain ⟨d0, d1, d2, d3, d4⟩ := blk5 (blk_below hG H5.out.2.2.1)
                    have l8 := lt_of_blk (blk_below hG H5.out.2.2.1)
                    simp only [t0, t1, t2, t3, t4, t5, t6, t7, t8] at hK
                    have H := Lib.hid hK
                    clear hK hT
                    go_simp
                    exact H.out _ _ (Below.refl _ _) rfl (fun h => by cases h) trivial
                  refine Rg.cons 10 11 rfl (Rg.guarded ?_ ?_) ?_
                  · intro vs W hT
                    have tg : vs 7 = .bool false := hT 7 (by decide)
                    simp only [Rg.putsD, List.getD_cons_zero, List.getD_cons_succ, Act.put, List.setIfInBounds_toArray, List.set_cons_zero, List.set_cons_succ, tg]
                    rfl
                  · intro vs W n hn hI hG hT hF K hK
                    simp only [Rg.putsD, List.getD_cons_zero, List.getD_cons_succ, Act.put, List.setIfInBounds_toArray, List.set_cons_zero, List.set_cons_succ] at hK ⊢
                    clear hn
                    clear hF hI
                    have t0 : vs 0 = .slice (some ⟨gy, 0, none⟩) ms.length ms.length := hT 0 (by decide)
                    have t1 : vs 1 = .int .i64 t := hT 1 (by decide)
                    have t2 : vs 2 = .pointer (some ⟨gy, t, none⟩) := hT 2 (by decide)
                    have t3 : vs 3 = .int .i64 ct := hT 3 (by decide)
                    have t4 : vs 4 = .pointer (some ⟨gx, 3, none⟩) := hT 4 (by decide)
                    have t5 : vs 5 = .int .i64 feed := hT 5 (by decide)
                    have t6 : vs 6 = .bool false := hT 6 (by decide)
                    have t7 : vs 7 = .bool false := hT 7 (by decide)
                    have c0 := cell_of_blk (blk_below hG H5.out.1.kn) 0
                    simp at c0
                    simp only [t0, t1, t2, t3, t4, t5, t6, t7] at hK
                    have H := Lib.hid hK
                    clear hK hT
                    go_simp
                    exact H.out _ _ (Below.refl _ _) rfl (fun h => by cases h) trivial
                  refine Rg.cons 11 12 rfl (Rg.guarded ?_ ?_) ?_
                  · intro vs W hT
                    have tg : vs 7 = .bool false := hT 7 (by decide)
                    simp only [Rg.putsD, List.getD_cons_zero, List.getD_cons_succ, Act.put, List.setIfInBounds_toArray, List.set_cons_zero, List.set_cons_succ, tg]
                    rfl
                  · intro vs W n hn hI hG hT hF K hK
                    simp only [Rg.putsD, List.getD_cons_zero, List.getD_cons_succ, Act.put, List.setIfInBounds_toArray, List.set_cons_zero, List.set_cons_succ] at hK ⊢
                    clear hn
                    clear hF hI
                    have t0 : vs 0 = .slice (some ⟨gy, 0, none⟩) ms.length ms.length := hT 0 (by decide)
                    have t1 : vs 1 = .int .i64 t := hT 1 (by decide)
                    have t2 : vs 2 = .pointer (some ⟨gy, t, none⟩) := hT 2 (by decide)
                    have t3 : vs 3 = .int .i64 ct := hT 3 (by decide)
                    have t4 : vs 4 = .pointer (some ⟨gx, 3, none⟩) := hT 4 (by decide)
                    have t5 : vs 5 = .int .i64 feed := hT 5 (by decide)
                    have t6 : vs 6 = .bool false := hT 6 (by decide)
                    have t7 : vs 7 = .bool false := hT 7 (by decide)
                    simp only [t0, t1, t2, t3, t4, t5, t6, t7] at hK
                    have H := Lib.hid hK
                    clear hK hT
                    go_simp
                    exact H.out _ _ (Below.refl _ _) rfl (fun h => by cases h) trivial
                  refine Rg.cons 12 13 rfl (Rg.guarded ?_ ?_) ?_
                  · intro vs W hT
                    have tg : vs 7 = .bool false := hT 7 (by decide)
                    simp only [Rg.putsD, List.getD_cons_zero, List.getD_cons_succ, Act.put, List.setIfInBounds_toArray, List.set_cons_zero, List.set_cons_succ, tg]
                    rfl
                  · intro vs W n hn hI hG hT hF K hK
                    simp only [Rg.putsD, List.getD_cons_zero, List.getD_cons_succ, Act.put, List.setIfInBounds_toArray, List.set_cons_zero, List.set_cons_succ] at hK ⊢
                    clear hn
                    clear hF hI
                    have t0 : vs 0 = .slice (some ⟨gy, 0, none⟩) ms.length ms.length := hT 0 (by decide)
                    have t1 : vs 1 = .int .i64 t := hT 1 (by decide)
                    have t2 : vs 2 = .pointer (some ⟨gy, t, none⟩) := hT 2 (by decide)
                    have t3 : vs 3 = .int .i64 ct := hT 3 (by decide)
                    have t4 : vs 4 = .pointer (some ⟨gx, 3, none⟩) := hT 4 (by decide)
                    have t5 : vs 5 = .int .i64 feed := hT 5 (by decide)
                    have t6 : vs 6 = .bool false := hT 6 (by decide)
                    have t7 : vs 7 = .bool false := hT 7 (by decide)
                    have t10 : vs 10 = .slice (some ⟨g2, 0, none⟩) ns.length cn := hT 10 (by decide)
                    have t11 : vs 11 = .int .i64 pre.length := hT 11 (by decide)
                    simp only [t0, t1, t2, t3, t4, t5, t6, t7, t10, t11] at hK
                    have H := Lib.hid hK
                    clear hK hT
                    go_simp
                    exact H.out _ _ (Below.refl _ _) rfl (fun h => by cases h) trivial
                  refine Rg.cons 13 14 rfl (Rg.guarded ?_ ?_) ?_
                  · intro vs W hT
                    have tg : vs 7 = .bool false := hT 7 (by decide)
                    simp only [Rg.putsD, List.getD_cons_zero, List.getD_cons_succ, Act.put, List.setIfInBounds_toArray, List.set_cons_zero, List.set_cons_succ, tg]
                    rfl
                  · intro vs W n hn hI hG hT hF K hK
                    simp only [Rg.putsD, List.getD_cons_zero, List.getD_cons_succ, Act.put, List.setIfInBounds_toArray, List.set_cons_zero, List.set_cons_succ] at hK ⊢
                    clear hn
                    clear hF hI
                    have t0 : vs 0 = .slice (some ⟨gy, 0, none⟩) ms.length ms.length := hT 0 (by decide)
                    have t1 : vs 1 = .int .i64 t := hT 1 (by decide)
                    have t2 : vs 2 = .pointer (some ⟨gy, t, none⟩) := hT 2 (by decide)
                    have t3 : vs 3 = .int .i64 ct := hT 3 (by decide)
                    have t4 : vs 4 = .pointer (some ⟨gx, 3, none⟩) := hT 4 (by decide)
                    have t5 : vs 5 = .int .i64 feed := hT 5 (by decide)
                    have t6 : vs 6 = .bool false := hT 6 (by decide)
                    have t7 : vs 7 = .bool false := hT 7 (by decide)
                    have t10 : vs 10 = .slice (some ⟨g2, 0, none⟩) ns.length cn := hT 10 (by decide)
                    have t11 : vs 11 = .int .i64 pre.length := hT 11 (by decide)
                    have t12 : vs 12 = .pointer (some ⟨g2, pre.length * 2, none⟩) := hT 12 (by decide)
                    simp only [t0, t1, t2, t3, t4, t5, t6, t7, t10, t11, t12] at hK
                    have H := Lib.hid hK
                    clear hK hT
                    go_simp
                    exact H.out _ _ (Below.refl _ _) rfl (fun h => by cases h) trivial
                  refine Rg.cons 14 15 rfl (Rg.guarded ?_ ?_) ?_
                  · intro vs W hT
                    have tg : vs 7 = .bool false := hT 7 (by decide)
                    simp only [Rg.putsD, List.getD_cons_zero, List.getD_cons_succ, Act.put, List.setIfInBounds_toArray, List.set_cons_zero, List.set_cons_succ, tg]
                    rfl
                  · intro vs W n hn hI hG hT hF K hK
                    simp only [Rg.putsD, List.getD_cons_zero, List.getD_cons_succ, Act.put, List.setIfInBounds_toArray, List.set_cons_zero, List.set_cons_succ] at hK ⊢
                    clear hn
                    clear hF hI
                    have t0 : vs 0 = .slice (some ⟨gy, 0, none⟩) ms.length ms.length := hT 0 (by decide)
                    have t1 : vs 1 = .int .i64 t := hT 1 (by decide)
                    have t2 : vs 2 = .pointer (some ⟨gy, t, none⟩) := hT 2 (by decide)
                    have t3 : vs 3 = .int .i64 ct := hT 3 (by decide)
                    have t4 : vs 4 = .pointer (some ⟨gx, 3, none⟩) := hT 4 (by decide)
                    have t5 : vs 5 = .int .i64 feed := hT 5 (by decide)
                    have t6 : vs 6 = .bool false := hT 6 (by decide)
                    have t7 : vs 7 = .bool false := hT 7 (by decide)
                    have t10 : vs 10 = .slice (some ⟨g2, 0, none⟩) ns.length cn := hT 10 (by decide)
                    have t11 : vs 11 = .int .i64 pre.length := hT 11 (by decide)
                    have t12 : vs 12 = .pointer (some ⟨g2, pre.length * 2, none⟩) := hT 12 (by decide)
                    have t13 : vs 13 = .pointer (some ⟨g2, pre.length * 2, none⟩) := hT 13 (by decide)
                    have c0 := ((H5.out.1.drew.below hG).bel.cell (p := ⟨g2, pre.length * 2, none⟩) hg2).trans HND.out.1
                    have l8 : g2 < W.heap.size := Nat.lt_of_lt_of_le hg2 (H5.out.1.drew.below hG).bel.size
                    simp only [t0, t1, t2, t3, t4, t5, t6, t7, t10, t11, t12, t13] at hK
                    have H := Lib.hid hK
                    clear hK hT
                    go_simp
                    exact H.out _ _ (Below.refl _ _) rfl (fun h => by cases h) trivial
                  exact Rg.nil
                · intro vs W hG hI hT hF
                  have t0 : vs 0 = .slice (some ⟨gy, 0, none⟩) ms.length ms.length := hT 0 (by decide)
                  have t1 : vs 1 = .int .i64 t := hT 1 (by decide)
                  have t2 : vs 2 = .pointer (some ⟨gy, t, none⟩) := hT 2 (by decide)
                  have t3 : vs 3 = .int .i64 ct := hT 3 (by decide)
                  have t4 : vs 4 = .pointer (some ⟨gx, 3, none⟩) := hT 4 (by decide)
                  have t5 : vs 5 = .int .i64 feed := hT 5 (by decide)
                  have t6 : vs 6 = .bool false := hT 6 (by decide)
                  have t7 : vs 7 = .bool false := hT 7 (by decide)
                  have t8 : vs 8 = .pointer (some ⟨gx, 4, none⟩) := hT 8 (by decide)
                  have t9 : vs 9 = .slice A4 can.length c4 := hT 9 (by decide)
                  have t10 : vs 10 = .slice (some ⟨g2, 0, none⟩) ns.length cn := hT 10 (by decide)
                  have t11 : vs 11 = .int .i64 pre.length := hT 11 (by decide)
                  have t12 : vs 12 = .pointer (some ⟨g2, pre.length * 2, none⟩) := hT 12 (by decide)
                  have t13 : vs 13 = .pointer (some ⟨g2, pre.length * 2, none⟩) := hT 13 (by decide)
                  have t14 : vs 14 = .string part := hT 14 (by decide)
                  simp only [List.length_cons, List.length_nil, Nat.reduceAdd, List.range, List.range.loop, List.drop_succ_cons, List.drop_zero, Rg.putsD, List.getD_cons_zero, List.getD_cons_succ, Act.put, List.setIfInBounds_toArray, List.set_cons_zero, List.set_cons_succ, t0, t1, t2, t3, t4, t5, t6, t7, t8, t9, t10, t11, t12, t13, t14]
                  clear hT t0 t1 t2 t3 t4 t5 t6 t7 t8 t9 t10 t11 t12 t13 t14
                  have H6 : Hid (BW w ⟨bm, bn, gp, bp, bb, bl, bf, gy, bk, gw, bw, bt, cw⟩ ns.length ms.length (.slice (some ⟨g1, 0, none⟩) ms.length cm) (.slice (some ⟨g2, 0, none⟩) ns.length cn) PS (cntL ms pre) (cyL ms ns (toZ pre)) acc1 W ∧ KB bt w0 W ∧ W.heap[gx]? = some (.cells #[.string key, .int .i64 each, .int .i64 fixed, .int .i64 feed, .slice A4 can.length c4] 57 (0, 0))) := ⟨H5.out.1.drew.below hG, H5.out.2.1.below ((Below.refl _ _).drew.then_below hG (Nat.le_refl _)), blk_below hG H5.out.2.2.1⟩
                  have CPW := Lib.hid (CP.out W (H5.out.2.2.2.below ((Below.refl _ _).drew.then_below hG (Nat.le_refl _))))
                  clear hF hI hG H5 HCY HCY1 HCC HCC1 CP
                  go_wp2_with fail
                  refine CPW.out.mono ?_
                  rintro e w7 ⟨rfl, rfl⟩
                  go_wp2_with fail
                  go_meet
                  exact ⟨by rw [HD.out]; simp, H6⟩
            case rest =>
              obtain ⟨rfl, H6⟩ := hcut
              clear H5
              cases hokc : (decide (ct < feed) && has can part)
              · rw [hokc] at HTK
                have HT2 : Hid (trK ms.length (okP ms ns) (mxP ms ns) f pre (t + 1) acc = acc1) := HTK.out.trans (if_neg (by simp))
                clear hokc HTK HCY HCY1 HCC HCC1
                go_wp2_with fail
                go_roundw
                case rel => exact ⟨t + 1, by omega, by go_num, by rw [HT2.out]; exact ⟨PS, HPS.out.1, HPS.out.2, H6.out.1⟩, H6.out.2.1⟩
                case measure => simp [intOf] <;> omega
              · rw [hokc] at HTK
                have HT2 : Hid (trK ms.length (okP ms ns) (mxP ms ns) f pre (t + 1) acc = tr ms.length (okP ms ns) (mxP ms ns) f (pre ++ [t]) acc1) := HTK.out.trans (if_pos rfl)
                have HRT := Lib.hid (HRS.out hokc)
                have hctf : ct ≤ 100 := by omega
                clear hokc HTK HRS HOK
                -- one more part
                have c0 := cell_of_blk H6.out.1.ky 0
                simp at c0
                have l0 := lt_of_blk H6.out.1.ky
                have c1 := HCY.out _ H6.out.1.ry
                have l1 := own_glt H6.out.1.ry
                have f1 := own_frozen H6.out.1.ry t
                dsimp only at c0 l0 c1 l1 f1
                have H7 : Hid (BW w ⟨bm, bn, gp, bp, bb, bl, bf, gy, bk, gw, bw, bt, cw⟩ ns.length ms.length (.slice (some ⟨g1, 0, none⟩) ms.length cm) (.slice (some ⟨g2, 0, none⟩) ns.length cn) PS (cntL ms (pre ++ [t])) (cyL ms ns (toZ pre)) acc1 (wc.setCell ⟨gy, t, none⟩ (.int .i64 (ct + 1))) ∧ KB bt w0 (wc.setCell ⟨gy, t, none⟩ (.int .i64 (ct + 1))) ∧ (wc.setCell ⟨gy, t, none⟩ (.int .i64 (ct + 1))).heap[gx]? = some (.cells #[.string key, .int .i64 each, .int .i64 fixed, .int .i64 feed, .slice A4 can.length c4] 57 (0, 0))) := by
                  have h := H6.out.1.setY t (ct + 1)
                  rw [HYS.out] at h
                  exact ⟨h, H6.out.2.1.set (by show gy ≤ _; omega) _, blk_far H6.out.2.2 (by show gx ≠ gy; omega) _⟩
                clear H6 HYS HCY
                go_upto_region 8 with (fail)
                generalize wc.setCell ⟨gy, t, none⟩ (.int .i64 (ct + 1)) = w7 at *
                clear c0 l0 c1 l1 f1
                -- its time
                have hw1 : IntKind.i64.wrap (each * many) = d := by rw [HDE.out]; exact IntWalk.i64_in _ (by omega)
                have HW1 := Lib.hid hw1
                clear hw1
                refine Rg.rgL (fun a b => Below a.heap.size a b)
                  [(fun vs u => vs 0 = .slice (some ⟨gw, 0, none⟩) ms.length cw), (fun vs u => vs 1 = .int .i64 t), (fun vs u => vs 2 = .pointer (some ⟨gw, t, none⟩)), (fun vs u => vs 3 = .int .i64 cy), (fun vs u => vs 4 = .pointer (some ⟨gx, 1, none⟩)), (fun vs u => vs 5 = .int .i64 each), (fun vs u => vs 6 = .slice (some ⟨g2, 0, none⟩) ns.length cn), (fun vs u => vs 7 = .int .i64 pre.length), (fun vs u => vs 8 = .pointer (some ⟨g2, pre.length * 2, none⟩)), (fun vs u => vs 9 = .pointer (some ⟨g2, pre.length * 2 + 1, none⟩)), (fun vs u => vs 10 = .int .i64 many), (fun vs u => vs 11 = .int .i64 d)]
                  [[], [], [0, 1], [0, 1, 2], [], [4], [], [], [6, 7], [6, 7, 8], [6, 7, 8, 9], [4, 5, 6, 7, 8, 9, 10]] [some 59, some 60, some 61, some 62, some 63, some 64, some 65, some 66, some 67, some 68, some 69, some 70, some 71, some 72, none] [] (fun _ _ => True) [[], [], [0, 1], [0, 1, 2], [], [4], [], [], [6, 7], [6, 7, 8], [6, 7, 8, 9], [4, 5, 6, 7, 8, 9, 10], [0, 1, 2, 3, 4, 5, 6, 7, 8, 9, 10, 11], [0, 1, 2, 3, 4, 5, 6, 7, 8, 9, 10, 11, 12], [0, 1, 2, 3, 4, 5, 6, 7, 8, 9, 10, 11, 12, 13]]
                  (by kernel_rfl) (by decide) (by kernel_rfl) (by kernel_rfl) (by kernel_rfl) (by kernel_rfl) (by kernel_rfl) (fun _ => Below.refl _ _) (fun _ _ _ h k => h.ext k) (fun _ _ h => h.size) ?_ trivial ?_ ?_
                · intro t ht vs w w' h hE
                  simp only [List.mem_cons, List.not_mem_nil, or_false] at ht
                  rcases ht with rfl | rfl | rfl | rfl | rfl | rfl | rfl | rfl | rfl | rfl | rfl | rfl
                  · exact h
                  · exact h
                  · exact h
                  · exact h
                  · exact h
                  · exact h
                  · exact h
                  · exact h
                  · exact h
                  · exact h
                  · exact h
                  · exact h
                ·
                  refine Rg.cons 0 1 rfl (Rg.plain rfl ?_) ?_
                  · intro vs W n hn hI hG hT hF K hK
                    simp only [Rg.putsD, List.getD_cons_zero, List.getD_cons_succ, Act.put, List.setIfInBounds_toArray, List.set_cons_zero, List.set_cons_succ] at hK ⊢
                    clear hn
                    clear hF hI
                    have c0 := cell_of_blk (blk_below hG H7.out.1.kw) 0
                    simp at c0
                    have H := Lib.hid hK
                    clear hK hT
                    go_simp
                    exact H.out _ _ (Below.refl _ _) rfl (fun h => by cases h) trivial
                  refine Rg.cons 1 2 rfl (Rg.plain rfl ?_) ?_
                  · intro vs W n hn hI hG hT hF K hK
                    simp only [Rg.putsD, List.getD_cons_zero, List.getD_cons_succ, Act.put, List.setIfInBounds_toArray, List.set_cons_zero, List.set_cons_succ] at hK ⊢
                    clear hn
                    clear hF hI
                    have H := Lib.hid hK
                    clear hK hT
                    go_simp
                    exact H.out _ _ (Below.refl _ _) rfl (fun h => by cases h) trivial
                  refine Rg.cons 2 3 rfl (Rg.plain rfl ?_) ?_
                  · intro vs W n hn hI hG hT hF K hK
                    simp only [Rg.putsD, List.getD_cons_zero, List.getD_cons_succ, Act.put, List.setIfInBounds_toArray, List.set_cons_zero, List.set_cons_succ] at hK ⊢
                    clear hn
                    clear hF hI
                    have t0 : vs 0 = .slice (some ⟨gw, 0, none⟩) ms.length cw := hT 0 (by decide)
                    have t1 : vs 1 = .int .i64 t := hT 1 (by decide)
                    simp only [t0, t1] at hK
                    have H := Lib.hid hK
                    clear hK hT
                    go_simp
                    exact H.out _ _ (Below.refl _ _) rfl (fun h => by cases h) trivial
                  refine Rg.cons 3 4 rfl (Rg.plain rfl ?_) ?_
                  · intro vs W n hn hI hG hT hF K hK
                    simp only [Rg.putsD, List.getD_cons_zero, List.getD_cons_succ, Act.put, List.setIfInBounds_toArray, List.set_cons_zero, List.set_cons_succ] at hK ⊢
                    clear hn
                    clear hF hI
                    have t0 : vs 0 = .slice (some ⟨gw, 0, none⟩) ms.length cw := hT 0 (by decide)
                    have t1 : vs 1 = .int .i64 t := hT 1 (by decide)
                    have t2 : vs 2 = .pointer (some ⟨gw, t, none⟩) := hT 2 (by decide)
                    have d3 := HCC.out W (H7.out.1.drew.below hG).rc
                    have l3 : gw < W.heap.size := own_glt (H7.out.1.drew.below hG).rc
                    simp only [t0, t1, t2] at hK
                    have H := Lib.hid hK
                    clear hK hT
                    go_simp
                    exact H.out _ _ (Below.refl _ _) rfl (fun h => by cases h) trivial
                  refine Rg.cons 4 5 rfl (Rg.plain rfl ?_) ?_
                  · intro vs W n hn hI hG hT hF K hK
                    simp only [Rg.putsD, List.getD_cons_zero, List.getD_cons_succ, Act.put, List.setIfInBounds_toArray, List.set_cons_zero, List.set_cons_succ] at hK ⊢
                    clear hn
                    clear hF hI
                    have H := Lib.hid hK
                    clear hK hT
                    go_simp
                    exact H.out _ _ (Below.refl _ _) rfl (fun h => by cases h) trivial
                  refine Rg.cons 5 6 rfl (Rg.plain rfl ?_) ?_
                  · intro vs W n hn hI hG hT hF K hK
                    simp only [Rg.putsD, List.getD_cons_zero, List.getD_cons_succ, Act.put, List.setIfInBounds_toArray, List.set_cons_zero, List.set_cons_succ] at hK ⊢
                    clear hn
                    clear hF hI
                    have t4 : vs 4 = .pointer (some ⟨gx, 1, none⟩) := hT 4 (by decide)
                    obtain ⟨d0, d1, d2, d3, d4⟩ := blk5 (blk_below hG H7.out.2.2)
                    have l8 := lt_of_blk (blk_below hG H7.out.2.2)
                    simp only [t4] at hK
                    have H := Lib.hid hK
                    clear hK hT
                    go_simp
                    exact H.out _ _ (Below.refl _ _) rfl (fun h => by cases h) trivial
                  refine Rg.cons 6 7 rfl (Rg.plain rfl ?_) ?_
                  · intro vs W n hn hI hG hT hF K hK
                    simp only [Rg.putsD, List.getD_cons_zero, List.getD_cons_succ, Act.put, List.setIfInBounds_toArray, List.set_cons_zero, List.set_cons_succ] at hK ⊢
                    clear hn
                    clear hF hI
                    have c0 := cell_of_blk (blk_below hG H7.out.1.kn) 0
                    simp at c0
                    have H := Lib.hid hK
                    clear hK hT
                    go_simp
                    exact H.out _ _ (Below.refl _ _) rfl (fun h => by cases h) trivial
                  refine Rg.cons 7 8 rfl (Rg.plain rfl ?_) ?_
                  · intro vs W n hn hI hG hT hF K hK
                    simp only [Rg.putsD, List.getD_cons_zero, List.getD_cons_succ, Act.put, List.setIfInBounds_toArray, List.set_cons_zero, List.set_cons_succ] at hK ⊢
                    clear hn
                    clear hF hI
                    have H := Lib.hid hK
                    clear hK hT
                    go_simp
                    exact H.out _ _ (Below.refl _ _) rfl (fun h => by cases h) trivial
                  refine Rg.cons 8 9 rfl (Rg.plain rfl ?_) ?_
                  · intro vs W n hn hI hG hT hF K hK
                    simp only [Rg.putsD, List.getD_cons_zero, List.getD_cons_succ, Act.put, List.setIfInBounds_toArray, List.set_cons_zero, List.set_cons_succ] at hK ⊢
                    clear hn
                    clear hF hI
                    have t6 : vs 6 = .slice (some ⟨g2, 0, none⟩) ns.length cn := hT 6 (by decide)
                    have t7 : vs 7 = .int .i64 pre.length := hT 7 (by decide)
                    simp only [t6, t7] at hK
                    have H := Lib.hid hK
                    clear hK hT
                    go_simp
                    exact H.out _ _ (Below.refl _ _) rfl (fun h => by cases h) trivial
                  refine Rg.cons 9 10 rfl (Rg.plain rfl ?_) ?_
                  · intro vs W n hn hI hG hT hF K hK
                    simp only [Rg.putsD, List.getD_cons_zero, List.getD_cons_succ, Act.put, List.setIfInBounds_toArray, List.set_cons_zero, List.set_cons_succ] at hK ⊢
                    clear hn
                    clear hF hI
                    have t6 : vs 6 = .slice (some ⟨g2, 0, none⟩) ns.length cn := hT 6 (by decide)
                    have t7 : vs 7 = .int .i64 pre.length := hT 7 (by decide)
                    have t8 : vs 8 = .pointer (some ⟨g2, pre.length * 2, none⟩) := hT 8 (by decide)
                    simp only [t6, t7, t8] at hK
                    have H := Lib.hid hK
                    clear hK hT
                    go_simp
                    exact H.out _ _ (Below.refl _ _) rfl (fun h => by cases h) trivial
                  refine Rg.cons 10 11 rfl (Rg.plain rfl ?_) ?_
                  · intro vs W n hn hI hG hT hF K hK
                    simp only [Rg.putsD, List.getD_cons_zero, List.getD_cons_succ, Act.put, List.setIfInBounds_toArray, List.set_cons_zero, List.set_cons_succ] at hK ⊢
                    clear hn
                    clear hF hI
                    have t6 : vs 6 = .slice (some ⟨g2, 0, none⟩) ns.length cn := hT 6 (by decide)
                    have t7 : vs 7 = .int .i64 pre.length := hT 7 (by decide)
                    have t8 : vs 8 = .pointer (some ⟨g2, pre.length * 2, none⟩) := hT 8 (by decide)
                    have t9 : vs 9 = .pointer (some ⟨g2, pre.length * 2 + 1, none⟩) := hT 9 (by decide)
                    have c0 := ((H7.out.1.drew.below hG).bel.cell (p := ⟨g2, pre.length * 2 + 1, none⟩) hg2).trans HND.out.2
                    have l8 : g2 < W.heap.size := Nat.lt_of_lt_of_le hg2 (H7.out.1.drew.below hG).bel.size
                    simp only [t6, t7, t8, t9] at hK
                    have H := Lib.hid hK
                    clear hK hT
                    go_simp
                    exact H.out _ _ (Below.refl _ _) rfl (fun h => by cases h) trivial
                  refine Rg.cons 11 12 rfl (Rg.plain rfl ?_) ?_
                  · intro vs W n hn hI hG hT hF K hK
                    simp only [Rg.putsD, List.getD_cons_zero, List.getD_cons_succ, Act.put, List.setIfInBounds_toArray, List.set_cons_zero, List.set_cons_succ] at hK ⊢
                    clear hn
                    clear hF hI
                    have t4 : vs 4 = .pointer (some ⟨gx, 1, none⟩) := hT 4 (by decide)
                    have t5 : vs 5 = .int .i64 each := hT 5 (by decide)
                    have t6 : vs 6 = .slice (some ⟨g2, 0, none⟩) ns.length cn := hT 6 (by decide)
                    have t7 : vs 7 = .int .i64 pre.length := hT 7 (by decide)
                    have t8 : vs 8 = .pointer (some ⟨g2, pre.length * 2, none⟩) := hT 8 (by decide)
                    have t9 : vs 9 = .pointer (some ⟨g2, pre.length * 2 + 1, none⟩) := hT 9 (by decide)
                    have t10 : vs 10 = .int .i64 many := hT 10 (by decide)
                    simp only [t4, t5, t6, t7, t8, t9, t10] at hK
                    have H := Lib.hid hK
                    clear hK hT
                    go_simp
                    rw [HW1.out]
                    exact H.out _ _ (Below.refl _ _) rfl (fun h => by cases h) trivial
                  exact Rg.nil
                · intro vs W hG hI hT hF
                  have t0 : vs 0 = .slice (some ⟨gw, 0, none⟩) ms.length cw := hT 0 (by decide)
                  have t1 : vs 1 = .int .i64 t := hT 1 (by decide)
                  have t2 : vs 2 = .pointer (some ⟨gw, t, none⟩) := hT 2 (by decide)
                  have t3 : vs 3 = .int .i64 cy := hT 3 (by decide)
                  have t4 : vs 4 = .pointer (some ⟨gx, 1, none⟩) := hT 4 (by decide)
                  have t5 : vs 5 = .int .i64 each := hT 5 (by decide)
                  have t6 : vs 6 = .slice (some ⟨g2, 0, none⟩) ns.length cn := hT 6 (by decide)
                  have t7 : vs 7 = .int .i64 pre.length := hT 7 (by decide)
                  have t8 : vs 8 = .pointer (some ⟨g2, pre.length * 2, none⟩) := hT 8 (by decide)
                  have t9 : vs 9 = .pointer (some ⟨g2, pre.length * 2 + 1, none⟩) := hT 9 (by decide)
                  have t10 : vs 10 = .int .i64 many := hT 10 (by decide)
                  have t11 : vs 11 = .int .i64 d := hT 11 (by decide)
                  simp only [List.length_cons, List.length_nil, Nat.reduceAdd, List.range, List.range.loop, List.drop_succ_cons, List.drop_zero, Rg.putsD, List.getD_cons_zero, List.getD_cons_succ, Act.put, List.setIfInBounds_toArray, List.set_cons_zero, List.set_cons_succ, t0, t1, t2, t3, t4, t5, t6, t7, t8, t9, t10, t11]
                  clear hT t0 t1 t2 t3 t4 t5 t6 t7 t8 t9 t10 t11
                  have H8 : Hid (BW w ⟨bm, bn, gp, bp, bb, bl, bf, gy, bk, gw, bw, bt, cw⟩ ns.length ms.length (.slice (some ⟨g1, 0, none⟩) ms.length cm) (.slice (some ⟨g2, 0, none⟩) ns.length cn) PS (cntL ms (pre ++ [t])) (cyL ms ns (toZ pre)) acc1 W ∧ KB bt w0 W ∧ W.heap[gx]? = some (.cells #[.string key, .int .i64 each, .int .i64 fixed, .int .i64 feed, .slice A4 can.length c4] 57 (0, 0))) := ⟨H7.out.1.drew.below hG, H7.out.2.1.below ((Below.refl _ _).drew.then_below hG (Nat.le_refl _)), blk_below hG H7.out.2.2⟩
                  clear hF hI hG H7
                  have l1 := own_glt H8.out.1.rc
                  have f1 := own_frozen H8.out.1.rc t
                  dsimp only at l1 f1
                  have H9 : Hid (BW w ⟨bm, bn, gp, bp, bb, bl, bf, gy, bk, gw, bw, bt, cw⟩ ns.length ms.length (.slice (some ⟨g1, 0, none⟩) ms.length cm) (.slice (some ⟨g2, 0, none⟩) ns.length cn) PS (cntL ms (pre ++ [t])) (cyL ms ns (toZ (pre ++ [t]))) acc1 (W.setCell ⟨gw, t, none⟩ (.int .i64 (cy + d))) ∧ KB bt w0 (W.setCell ⟨gw, t, none⟩ (.int .i64 (cy + d))) ∧ (W.setCell ⟨gw, t, none⟩ (.int .i64 (cy + d))).heap[gx]? = some (.cells #[.string key, .int .i64 each, .int .i64 fixed, .int .i64 feed, .slice A4 can.length c4] 57 (0, 0))) := by
                    have h := H8.out.1.setC t (cy + d)
                    rw [HCS.out] at h
                    exact ⟨h, H8.out.2.1.set (by show gw ≤ _; omega) _, blk_far H8.out.2.2 (by show gx ≠ gw; omega) _⟩
                  have c3 := HCC.out _ H8.out.1.rc
                  clear H8 HCS HCC
                  go_upto_region 9 with (fail)
                  generalize W.setCell ⟨gw, t, none⟩ (.int .i64 (cy + d)) = w9 at *
                  clear l1 f1 c3
                  -- the plan
                  have c0 := cell_of_blk H9.out.1.kp 0
                  simp at c0
                  have l0 := lt_of_blk H9.out.1.kp
                  have l1 := own_glt H9.out.1.rp
                  have f1 := own_frozen H9.out.1.rp pre.length
                  have c1 := own_cell H9.out.1.rp (j := pre.length) (by have := HPS.out.1; omega) HPS.out.1
                  dsimp only at c0 l0 l1 f1 c1
                  have H10 : Hid (BW w ⟨bm, bn, gp, bp, bb, bl, bf, gy, bk, gw, bw, bt, cw⟩ ns.length ms.length (.slice (some ⟨g1, 0, none⟩) ms.length cm) (.slice (some ⟨g2, 0, none⟩) ns.length cn) (PS.set pre.length (t : Int)) (cntL ms (pre ++ [t])) (cyL ms ns (toZ (pre ++ [t]))) acc1 (w9.setCell ⟨gp, pre.length, none⟩ (.int .i64 t)) ∧ KB bt w0 (w9.setCell ⟨gp, pre.length, none⟩ (.int .i64 t)) ∧ (w9.setCell ⟨gp, pre.length, none⟩ (.int .i64 t)).heap[gx]? = some (.cells #[.string key, .int .i64 each, .int .i64 fixed, .int .i64 feed, .slice A4 can.length c4] 57 (0, 0))) :=
                    ⟨H9.out.1.setP pre.length t, H9.out.2.1.set (by show gp ≤ _; omega) _, blk_far H9.out.2.2 (by show gx ≠ gp; omega) _⟩
                  clear H9
                  go_upto_region 10 with (fail)
                  generalize w9.setCell ⟨gp, pre.length, none⟩ (.int .i64 t) = w10 at *
                  clear c0 l0 l1 f1 c1
                  -- it goes on
                  have hln1 : (((pre ++ [t]).length : Nat) : Int) = (pre.length : Int) + 1 := by rw [List.length_append]; rfl
                  have CI := HIF.out (pre ++ [t]) acc1 w10 (by rw [List.length_append, List.length_singleton]; omega) HRT.out ⟨PS.set pre.length (t : Int), by rw [List.length_set]; exact HPS.out.1, plan_set HPS.out.1 hpl HPS.out.2 t, H10.out.1⟩
                  rw [hln1] at CI
                  dsimp only at CI
                  have HCI := Lib.hid CI
                  clear CI hln1
                  have c0 := cell_of_blk H10.out.1.kt 0
                  simp [tryB] at c0
                  have l0 := lt_of_blk H10.out.1.kt
                  dsimp only at c0 l0
                  go_wp2_with fail
                  refine HCI.out.mono ?_
                  rintro e w11 ⟨rfl, hV, hK⟩
                  generalize tr ms.length (okP ms ns) (mxP ms ns) f (pre ++ [t]) acc1 = acc2 at *
                  obtain ⟨P2, hp1, hp2, hp3⟩ := hV
                  have H11 : Hid (BW w ⟨bm, bn, gp, bp, bb, bl, bf, gy, bk, gw, bw, bt, cw⟩ ns.length ms.length (.slice (some ⟨g1, 0, none⟩) ms.length cm) (.slice (some ⟨g2, 0, none⟩) ns.length cn) P2 (cntL ms (pre ++ [t])) (cyL ms ns (toZ (pre ++ [t]))) acc2 w11 ∧ KB bt w0 w11 ∧ w11.heap[gx]? = some (.cells #[.string key, .int .i64 each, .int .i64 fixed, .int .i64 feed, .slice A4 can.length c4] 57 (0, 0))) :=
                    ⟨hp3, H10.out.2.1.trans hK, hK.blk H10.out.2.2 hbtx⟩
                  have HP2 : Hid (P2.length = ns.length ∧ P2.take pre.length = toZ pre) := ⟨hp1, plan_back hp2⟩
                  clear hp1 hp2 hp3 hK H10 HCI HIF c0 l0 HPS
                  obtain ⟨cz, hcz⟩ : ∃ x, cy + d = x := ⟨_, rfl⟩
                  obtain ⟨cu, hcu⟩ : ∃ x, ct + 1 = x := ⟨_, rfl⟩
                  rw [hcz] at HCC1 HCB
                  rw [hcu] at HCY1 HYB
                  go_upto_region 11 with (fail)
                  refine Rg.rgL (fun a b => Below a.heap.size a b)
                    [(fun vs u => vs 0 = .slice (some ⟨gw, 0, none⟩) ms.length cw), (fun vs u => vs 1 = .int .i64 t), (fun vs u => vs 2 = .pointer (some ⟨gw, t, none⟩)), (fun vs u => vs 3 = .int .i64 cz), (fun vs u => vs 4 = .pointer (some ⟨gx, 1, none⟩)), (fun vs u => vs 5 = .int .i64 each), (fun vs u => vs 6 = .slice (some ⟨g2, 0, none⟩) ns.length cn), (fun vs u => vs 7 = .int .i64 pre.length), (fun vs u => vs 8 = .pointer (some ⟨g2, pre.length * 2, none⟩)), (fun vs u => vs 9 = .pointer (some ⟨g2, pre.length * 2 + 1, none⟩)), (fun vs u => vs 10 = .int .i64 many), (fun vs u => vs 11 = .int .i64 d)]
                    [[], [], [0, 1], [0, 1, 2], [], [4], [], [], [6, 7], [6, 7, 8], [6, 7, 8, 9], [4, 5, 6, 7, 8, 9, 10]] [some 81, some 82, some 83, some 84, some 85, some 86, some 87, some 88, some 89, some 90, some 91, some 92, some 93, some 94, none] [] (fun _ _ => True) [[], [], [0, 1], [0, 1, 2], [], [4], [], [], [6, 7], [6, 7, 8], [6, 7, 8, 9], [4, 5, 6, 7, 8, 9, 10], [0, 1, 2, 3, 4, 5, 6, 7, 8, 9, 10, 11], [0, 1, 2, 3, 4, 5, 6, 7, 8, 9, 10, 11, 12], [0, 1, 2, 3, 4, 5, 6, 7, 8, 9, 10, 11, 12, 13]]
                    (by kernel_rfl) (by decide) (by kernel_rfl) (by kernel_rfl) (by kernel_rfl) (by kernel_rfl) (by kernel_rfl) (fun _ => Below.refl _ _) (fun _ _ _ h k => h.ext k) (fun _ _ h => h.size) ?_ trivial ?_ ?_
                  · intro t ht vs w w' h hE
                    simp only [List.mem_cons, List.not_mem_nil, or_false] at ht
                    rcases ht with rfl | rfl | rfl | rfl | rfl | rfl | rfl | rfl | rfl | rfl | rfl | rfl
                    · exact h
                    · exact h
                    · exact h
                    · exact h
                    · exact h
                    · exact h
                    · exact h
                    · exact h
                    · exact h
                    · exact h
                    · exact h
                    · exact h
                  ·
                    refine Rg.cons 0 1 rfl (Rg.plain rfl ?_) ?_
                    · intro vs W n hn hI hG hT hF K hK
                      simp only [Rg.putsD, List.getD_cons_zero, List.getD_cons_succ, Act.put, List.setIfInBounds_toArray, List.set_cons_zero, List.set_cons_succ] at hK ⊢
                      clear hn
                      clear hF hI
                      have c0 := cell_of_blk (blk_below hG H11.out.1.kw) 0
                      simp at c0
                      have H := Lib.hid hK
                      clear hK hT
                      go_simp
                      exact H.out _ _ (Below.refl _ _) rfl (fun h => by cases h) trivial
                    refine Rg.cons 1 2 rfl (Rg.plain rfl ?_) ?_
                    · intro vs W n hn hI hG hT hF K hK
                      simp only [Rg.putsD, List.getD_cons_zero, List.getD_cons_succ, Act.put, List.setIfInBounds_toArray, List.set_cons_zero, List.set_cons_succ] at hK ⊢
                      clear hn
                      clear hF hI
                      have H := Lib.hid hK
                      clear hK hT
                      go_simp
                      exact H.out _ _ (Below.refl _ _) rfl (fun h => by cases h) trivial
                    refine Rg.cons 2 3 rfl (Rg.plain rfl ?_) ?_
                    · intro vs W n hn hI hG hT hF K hK
                      simp only [Rg.putsD, List.getD_cons_zero, List.getD_cons_succ, Act.put, List.setIfInBounds_toArray, List.set_cons_zero, List.set_cons_succ] at hK ⊢
                      clear hn
                      clear hF hI
                      have t0 : vs 0 = .slice (some ⟨gw, 0, none⟩) ms.length cw := hT 0 (by decide)
                      have t1 : vs 1 = .int .i64 t := hT 1 (by decide)
                      simp only [t0, t1] at hK
                      have H := Lib.hid hK
                      clear hK hT
                      go_simp
                      exact H.out _ _ (Below.refl _ _) rfl (fun h => by cases h) trivial
                    refine Rg.cons 3 4 rfl (Rg.plain rfl ?_) ?_
                    · intro vs W n hn hI hG hT hF K hK
                      simp only [Rg.putsD, List.getD_cons_zero, List.getD_cons_succ, Act.put, List.setIfInBounds_toArray, List.set_cons_zero, List.set_cons_succ] at hK ⊢
                      clear hn
                      clear hF hI
                      have t0 : vs 0 = .slice (some ⟨gw, 0, none⟩) ms.length cw := hT 0 (by decide)
                      have t1 : vs 1 = .int .i64 t := hT 1 (by decide)
                      have t2 : vs 2 = .pointer (some ⟨gw, t, none⟩) := hT 2 (by decide)
                      have d3 := HCC1.out W (H11.out.1.drew.below hG).rc
                      have l3 : gw < W.heap.size := own_glt (H11.out.1.drew.below hG).rc
                      simp only [t0, t1, t2] at hK
                      have H := Lib.hid hK
                      clear hK hT
                      go_simp
                      exact H.out _ _ (Below.refl _ _) rfl (fun h => by cases h) trivial
                    refine Rg.cons 4 5 rfl (Rg.plain rfl ?_) ?_
                    · intro vs W n hn hI hG hT hF K hK
                      simp only [Rg.putsD, List.getD_cons_zero, List.getD_cons_succ, Act.put, List.setIfInBounds_toArray, List.set_cons_zero, List.set_cons_succ] at hK ⊢
                      clear hn
                      clear hF hI
                      have H := Lib.hid hK
                      clear hK hT
                      go_simp
                      exact H.out _ _ (Below.refl _ _) rfl (fun h => by cases h) trivial
                    refine Rg.cons 5 6 rfl (Rg.plain rfl ?_) ?_
                    · intro vs W n hn hI hG hT hF K hK
                      simp only [Rg.putsD, List.getD_cons_zero, List.getD_cons_succ, Act.put, List.setIfInBounds_toArray, List.set_cons_zero, List.set_cons_succ] at hK ⊢
                      clear hn
                      clear hF hI
                      have t4 : vs 4 = .pointer (some ⟨gx, 1, none⟩) := hT 4 (by decide)
                      obtain ⟨d0, d1, d2, d3, d4⟩ := blk5 (blk_below hG H11.out.2.2)
                      have l8 := lt_of_blk (blk_below hG H11.out.2.2)
                      simp only [t4] at hK
                      have H := Lib.hid hK
                      clear hK hT
                      go_simp
                      exact H.out _ _ (Below.refl _ _) rfl (fun h => by cases h) trivial
                    refine Rg.cons 6 7 rfl (Rg.plain rfl ?_) ?_
                    · intro vs W n hn hI hG hT hF K hK
                      simp only [Rg.putsD, List.getD_cons_zero, List.getD_cons_succ, Act.put, List.setIfInBounds_toArray, List.set_cons_zero, List.set_cons_succ] at hK ⊢
                      clear hn
                      clear hF hI
                      have c0 := cell_of_blk (blk_below hG H11.out.1.kn) 0
                      simp at c0
                      have H := Lib.hid hK
                      clear hK hT
                      go_simp
                      exact H.out _ _ (Below.refl _ _) rfl (fun h => by cases h) trivial
                    refine Rg.cons 7 8 rfl (Rg.plain rfl ?_) ?_
                    · intro vs W n hn hI hG hT hF K hK
                      simp only [Rg.putsD, List.getD_cons_zero, List.getD_cons_succ, Act.put, List.setIfInBounds_toArray, List.set_cons_zero, List.set_cons_succ] at hK ⊢
                      clear hn
                      clear hF hI
                      have H := Lib.hid hK
                      clear hK hT
                      go_simp
                      exact H.out _ _ (Below.refl _ _) rfl (fun h => by cases h) trivial
                    refine Rg.cons 8 9 rfl (Rg.plain rfl ?_) ?_
                    · intro vs W n hn hI hG hT hF K hK
                      simp only [Rg.putsD, List.getD_cons_zero, List.getD_cons_succ, Act.put, List.setIfInBounds_toArray, List.set_cons_zero, List.set_cons_succ] at hK ⊢
                      clear hn
                      clear hF hI
                      have t6 : vs 6 = .slice (some ⟨g2, 0, none⟩) ns.length cn := hT 6 (by decide)
                      have t7 : vs 7 = .int .i64 pre.length := hT 7 (by decide)
                      simp only [t6, t7] at hK
                      have H := Lib.hid hK
                      clear hK hT
                      go_simp
                      exact H.out _ _ (Below.refl _ _) rfl (fun h => by cases h) trivial
                    refine Rg.cons 9 10 rfl (Rg.plain rfl ?_) ?_
                    · intro vs W n hn hI hG hT hF K hK
                      simp only [Rg.putsD, List.getD_cons_zero, List.getD_cons_succ, Act.put, List.setIfInBounds_toArray, List.set_cons_zero, List.set_cons_succ] at hK ⊢
                      clear hn
                      clear hF hI
                      have t6 : vs 6 = .slice (some ⟨g2, 0, none⟩) ns.length cn := hT 6 (by decide)
                      have t7 : vs 7 = .int .i64 pre.length := hT 7 (by decide)
                      have t8 : vs 8 = .pointer (some ⟨g2, pre.length * 2, none⟩) := hT 8 (by decide)
                      simp only [t6, t7, t8] at hK
                      have H := Lib.hid hK
                      clear hK hT
                      go_simp
                      exact H.out _ _ (Below.refl _ _) rfl (fun h => by cases h) trivial
                    refine Rg.cons 10 11 rfl (Rg.plain rfl ?_) ?_
                    · intro vs W n hn hI hG hT hF K hK
                      simp only [Rg.putsD, List.getD_cons_zero, List.getD_cons_succ, Act.put, List.setIfInBounds_toArray, List.set_cons_zero, List.set_cons_succ] at hK ⊢
                      clear hn
                      clear hF hI
                      have t6 : vs 6 = .slice (some ⟨g2, 0, none⟩) ns.length cn := hT 6 (by decide)
                      have t7 : vs 7 = .int .i64 pre.length := hT 7 (by decide)
                      have t8 : vs 8 = .pointer (some ⟨g2, pre.length * 2, none⟩) := hT 8 (by decide)
                      have t9 : vs 9 = .pointer (some ⟨g2, pre.length * 2 + 1, none⟩) := hT 9 (by decide)
                      have c0 := ((H11.out.1.drew.below hG).bel.cell (p := ⟨g2, pre.length * 2 + 1, none⟩) hg2).trans HND.out.2
                      have l8 : g2 < W.heap.size := Nat.lt_of_lt_of_le hg2 (H11.out.1.drew.below hG).bel.size
                      simp only [t6, t7, t8, t9] at hK
                      have H := Lib.hid hK
                      clear hK hT
                      go_simp
                      exact H.out _ _ (Below.refl _ _) rfl (fun h => by cases h) trivial
                    refine Rg.cons 11 12 rfl (Rg.plain rfl ?_) ?_
                    · intro vs W n hn hI hG hT hF K hK
                      simp only [Rg.putsD, List.getD_cons_zero, List.getD_cons_succ, Act.put, List.setIfInBounds_toArray, List.set_cons_zero, List.set_cons_succ] at hK ⊢
                      clear hn
                      clear hF hI
                      have t4 : vs 4 = .pointer (some ⟨gx, 1, none⟩) := hT 4 (by decide)
                      have t5 : vs 5 = .int .i64 each := hT 5 (by decide)
                      have t6 : vs 6 = .slice (some ⟨g2, 0, none⟩) ns.length cn := hT 6 (by decide)
                      have t7 : vs 7 = .int .i64 pre.length := hT 7 (by decide)
                      have t8 : vs 8 = .pointer (some ⟨g2, pre.length * 2, none⟩) := hT 8 (by decide)
                      have t9 : vs 9 = .pointer (some ⟨g2, pre.length * 2 + 1, none⟩) := hT 9 (by decide)
                      have t10 : vs 10 = .int .i64 many := hT 10 (by decide)
                      simp only [t4, t5, t6, t7, t8, t9, t10] at hK
                      have H := Lib.hid hK
                      clear hK hT
                      go_simp
                      rw [HW1.out]
                      exact H.out _ _ (Below.refl _ _) rfl (fun h => by cases h) trivial
                    exact Rg.nil
                  · intro vs W hG hI hT hF
                    have t0 : vs 0 = .slice (some ⟨gw, 0, none⟩) ms.length cw := hT 0 (by decide)
                    have t1 : vs 1 = .int .i64 t := hT 1 (by decide)
                    have t2 : vs 2 = .pointer (some ⟨gw, t, none⟩) := hT 2 (by decide)
                    have t3 : vs 3 = .int .i64 cz := hT 3 (by decide)
                    have t4 : vs 4 = .pointer (some ⟨gx, 1, none⟩) := hT 4 (by decide)
                    have t5 : vs 5 = .int .i64 each := hT 5 (by decide)
                    have t6 : vs 6 = .slice (some ⟨g2, 0, none⟩) ns.length cn := hT 6 (by decide)
                    have t7 : vs 7 = .int .i64 pre.length := hT 7 (by decide)
                    have t8 : vs 8 = .pointer (some ⟨g2, pre.length * 2, none⟩) := hT 8 (by decide)
                    have t9 : vs 9 = .pointer (some ⟨g2, pre.length * 2 + 1, none⟩) := hT 9 (by decide)
                    have t10 : vs 10 = .int .i64 many := hT 10 (by decide)
                    have t11 : vs 11 = .int .i64 d := hT 11 (by decide)
                    simp only [List.length_cons, List.length_nil, Nat.reduceAdd, List.range, List.range.loop, List.drop_succ_cons, List.drop_zero, Rg.putsD, List.getD_cons_zero, List.getD_cons_succ, Act.put, List.setIfInBounds_toArray, List.set_cons_zero, List.set_cons_succ, t0, t1, t2, t3, t4, t5, t6, t7, t8, t9, t10, t11]
                    clear hT t0 t1 t2 t3 t4 t5 t6 t7 t8 t9 t10 t11
                    have H12 : Hid (BW w ⟨bm, bn, gp, bp, bb, bl, bf, gy, bk, gw, bw, bt, cw⟩ ns.length ms.length (.slice (some ⟨g1, 0, none⟩) ms.length cm) (.slice (some ⟨g2, 0, none⟩) ns.length cn) P2 (cntL ms (pre ++ [t])) (cyL ms ns (toZ (pre ++ [t]))) acc2 W ∧ KB bt w0 W) := ⟨H11.out.1.drew.below hG, H11.out.2.1.below ((Below.refl _ _).drew.then_below hG (Nat.le_refl _))⟩
                    clear hF hI hG H11
                    have l1 := own_glt H12.out.1.rc
                    have f1 := own_frozen H12.out.1.rc t
                    dsimp only at l1 f1
                    have H13 : Hid (BW w ⟨bm, bn, gp, bp, bb, bl, bf, gy, bk, gw, bw, bt, cw⟩ ns.length ms.length (.slice (some ⟨g1, 0, none⟩) ms.length cm) (.slice (some ⟨g2, 0, none⟩) ns.length cn) P2 (cntL ms (pre ++ [t])) (cyL ms ns (toZ pre)) acc2 (W.setCell ⟨gw, t, none⟩ (.int .i64 (cz - d))) ∧ KB bt w0 (W.setCell ⟨gw, t, none⟩ (.int .i64 (cz - d)))) := by
                      have h := H12.out.1.setC t (cz - d)
                      rw [HCB.out] at h
                      exact ⟨h, H12.out.2.set (by show gw ≤ _; omega) _⟩
                    have c3 := HCC1.out _ H12.out.1.rc
                    clear H12 HCB HCC1
                    go_upto_region 12 with (fail)
                    generalize W.setCell ⟨gw, t, none⟩ (.int .i64 (cz - d)) = w13 at *
                    clear l1 f1 c3
                    have c0 := cell_of_blk H13.out.1.ky 0
                    simp at c0
                    have l0 := lt_of_blk H13.out.1.ky
                    have c1 := HCY1.out _ H13.out.1.ry
                    have l1 := own_glt H13.out.1.ry
                    have f1 := own_frozen H13.out.1.ry t
                    dsimp only at c0 l0 c1 l1 f1
                    have H14 : Hid (BW w ⟨bm, bn, gp, bp, bb, bl, bf, gy, bk, gw, bw, bt, cw⟩ ns.length ms.length (.slice (some ⟨g1, 0, none⟩) ms.length cm) (.slice (some ⟨g2, 0, none⟩) ns.length cn) P2 (cntL ms pre) (cyL ms ns (toZ pre)) acc2 (w13.setCell ⟨gy, t, none⟩ (.int .i64 (cu - 1))) ∧ KB bt w0 (w13.setCell ⟨gy, t, none⟩ (.int .i64 (cu - 1)))) := by
                      have h := H13.out.1.setY t (cu - 1)
                      rw [HYB.out] at h
                      exact ⟨h, H13.out.2.set (by show gy ≤ _; omega) _⟩
                    clear H13 HYB HCY1
                    go_wp2_with fail
                    go_roundw
                    case rel => exact ⟨t + 1, by omega, by go_num, by rw [HT2.out]; exact ⟨P2, HP2.out.1, HP2.out.2, H14.out.1⟩, H14.out.2⟩
                    case measure => simp [intOf] <;> omega
          · obtain rfl : t = ms.length := by omega
            go_wp2_with fail
            refine bodyPost_end (v := .tuple #[]) (by unfold results; simp only [Tryz.results44]; go_simp) rfl ⟨rfl, by rw [HF.out]; exact HS.out.1, HS.out.2⟩
end Go.Proofs.YtopoemfnnnfgdaaGreatDoor
