/-
  The walk of the law PointsChecked.
-/
import Derived.Test.YtbkbjljkfhahbaaGreatDoorTpS
import Derived.Deep.DeepCutAuto
namespace Go.Proofs.YtbkbjljkfhahbaaGreatDoor
open Go.RowKit
set_option linter.unusedSimpArgs false
set_option linter.unusedVariables false

theorem kept_belowL {sb : Nat} {w w' : World} {o : Obj} (hs : sb = w.heap.size) (h : Kept sb (w.alloc o) w') : Below w.heap.size w w' := by
  subst hs
  obtain ⟨a, b, c⟩ := h.outer
  refine ⟨a, b, c, by have := h.more; simp at this; omega, fun k hk => ?_⟩
  exact (h.old k (by simp; omega) (by omega)).trans (Below.heap_alloc w o k hk)
theorem Reads.kept {α : Type} {enc : α → List Value} {v : Value} {l : List α} {w w' : World} {sb base : Nat} {T : TypeId} {size : Nat} (h : w.ownsRow base T size v l.length (l.flatMap enc)) (hk : Kept sb w w') (hb : sb < base) : Reads enc v l w' := reads_own (kept_own h hk hb)
/-- The two points in their blocks, the row of points, and the stream. -/
structure L7 (wo : World) (sb g1 g2 : Nat) (a b : Int × Int) (v : Value) (l : List (Int × Int)) (W : World) : Prop where
  tk : Took sb 60 wo W
  k1 : W.heap[g1]? = some (.cells #[.int .i64 a.1, .int .i64 a.2] 45 (0, 0))
  k2 : W.heap[g2]? = some (.cells #[.int .i64 b.1, .int .i64 b.2] 45 (0, 0))
  rd : Reads encP v l W
theorem L7.then_ {wo : World} {sb g1 g2 : Nat} {a b : Int × Int} {v : Value} {l : List (Int × Int)} {W W' : World} (h : L7 wo sb g1 g2 a b v l W) (hb : Below W.heap.size W W') : L7 wo sb g1 g2 a b v l W' :=
  ⟨h.tk.below hb, blk_below hb h.k1, blk_below hb h.k2, h.rd.below hb⟩
theorem two_reads {w : World} {g : Nat} {a b : Int × Int} {t : TypeId} (h : w.heap[g]? = some (.cells #[.int .i64 a.1, .int .i64 a.2, .int .i64 b.1, .int .i64 b.2] t (0, 0))) : Reads encP (.slice (some ⟨g, 0, none⟩) 2 2) [a, b] w :=
  ⟨_, 2, rfl, .inr ⟨g, rfl, lt_of_blk h, fun j x hx => by rw [cell_of_blk h]; simpa [encP] using hx⟩⟩

set_option maxRecDepth 100000 in
set_option maxHeartbeats 8000000 in
theorem lawP_any (A0 : Option Addr) (n c0 : Nat) (w : World) (hc : n ≤ c0) (hm : c0 ≤ 9223372036854775807) (hA : IntsAt w A0 n w.heap.size) (hGl : Gl w) (hw : gLow ≤ w.heap.size) :
    Calls Tryz.prog 4 #[.slice A0 n c0] w fun e w' => e = .returned (.bool true) ∧ Below w.heap.size w w' := by
  have hs0 : IsStream (w.alloc (.cells #[.slice A0 n c0, .int .i64 0] 25)) w.heap.size 0 := by
    refine ⟨A0, n, c0, 0, hc, hm, Nat.le_refl _, blk_new w _ rfl, fun hn => ?_⟩
    obtain ⟨ad, e, h1, h2, h3⟩ := hA hn
    refine ⟨ad, e, by simp; omega, h2, fun k hk => ?_⟩
    obtain ⟨x, hx⟩ := h3 k hk
    exact ⟨x, ((((Below.refl w.heap.size w).alloc (Nat.le_refl _) _).cell (by rw [addr_block]; exact h1))).trans hx⟩
  obtain ⟨wo, hwo⟩ : ∃ wo, wo = w.alloc (.cells #[.slice A0 n c0, .int .i64 0] 25) := ⟨_, rfl⟩
  have HWO : Hid (Below w.heap.size w wo ∧ w.heap.size < wo.heap.size) := ⟨by rw [hwo]; exact (Below.refl _ _).alloc (Nat.le_refl _) _, by rw [hwo]; simp⟩
  have HW := Lib.hid hwo
  rw [← hwo] at hs0
  clear hwo
  have H0 := Lib.hid (Took.refl hs0)
  have hwz := HWO.out.2
  have HGo := Lib.hid (hGl.below HWO.out.1 hw)
  have HKB : Hid (∀ W, Kept w.heap.size wo W → Below w.heap.size w W) := fun W h => kept_belowL rfl (by rw [HW.out] at h; exact h)
  go_enter Tryz.func4, Tryz.ntmps4
  go_upto_region 2 with (fail)
  rw [← HW.out]
  have CA := Lib.hid (pointsOf_any w.heap.size 0 6 (by omega) wo (by omega) H0.out.1)
  go_wp2_with fail
  refine CA.out.mono ?_
  rintro e w1 ⟨v1, l, rfl, hl6, how1, t1⟩
  have H1 : Hid (Took w.heap.size 60 wo w1 ∧ w1.ownsRow wo.heap.size 45 2 v1 l.length (l.flatMap encP)) := ⟨t1.more (by omega), how1⟩
  have T1 := Lib.hid t1
  have hz1 := t1.size
  clear t1 CA how1
  go_wp2_with fail
  refine (aplace_any w.heap.size 31 w1 (by omega) (T1.out.1.more (by omega))).mono ?_
  rintro e w2 ⟨x1, y1, rfl, t2⟩
  have H2 : Hid (Took w.heap.size 36 wo w2 ∧ w2.ownsRow wo.heap.size 45 2 v1 l.length (l.flatMap encP)) := ⟨(T1.out.trans t2).more (by omega), kept_own H1.out.2 t2.2 hwz⟩
  have hz2 := H2.out.1.size
  clear t2 H1 T1
  go_wp2_with fail
  refine (aplace_any w.heap.size 36 w2 (by omega) H2.out.1.1).mono ?_
  rintro e w3 ⟨x2, y2, rfl, t3⟩
  have H3 : Hid (Took w.heap.size 41 wo w3 ∧ w3.ownsRow wo.heap.size 45 2 v1 l.length (l.flatMap encP)) := ⟨(H2.out.1.trans t3).more (by omega), kept_own H2.out.2 t3.2 hwz⟩
  have hz3 := H3.out.1.size
  clear t3 H2
  go_wp2_with fail
  refine (pick_lit w.heap.size 41 [0, 3, 6, 500] w3 w3.heap.size 4 rfl (by omega) (by omega) rfl (by omega) H3.out.1.1).mono ?_
  rintro e w4 ⟨most, hmost, rfl, t4⟩
  have H4 : Hid (Took w.heap.size 60 wo w4 ∧ w4.ownsRow wo.heap.size 45 2 v1 l.length (l.flatMap encP)) := ⟨(H3.out.1.trans t4).more (by omega), kept_own H3.out.2 t4.2 hwz⟩
  have hz4 := H4.out.1.size
  clear t4 H3 hmost
  obtain ⟨A, c, rfl, _⟩ := own_form H4.out.2
  go_upto_region 3 with (fail)
  have H5 : Hid (L7 wo w.heap.size w4.heap.size (w4.heap.size + 1) (x1, y1) (x2, y2) (.slice A l.length c) l ((w4.alloc (.cells #[.int .i64 x1, .int .i64 y1] 45)).alloc (.cells #[.int .i64 x2, .int .i64 y2] 45))) :=
    ⟨(H4.out.1.alloc _).alloc _, blk_alloc (blk_new w4 _ rfl) _, blk_new _ _ (by simp), ((reads_own H4.out.2).below ((Below.refl _ _).alloc (Nat.le_refl _) _)).below ((Below.refl _ _).alloc (Nat.le_refl _) _)⟩
  generalize (w4.alloc (.cells #[.int .i64 x1, .int .i64 y1] 45)).alloc (.cells #[.int .i64 x2, .int .i64 y2] 45) = w5 at *
  generalize w4.heap.size + 1 = g2 at *
  generalize w4.heap.size = g1 at *
  clear H4 hz1 hz2 hz3 hz4
  have C1 := Lib.hid (fun (W : World) (h : Reads encP (.slice A l.length c) l W) => checkPoints_any l (by omega) most h)
  have C2 := Lib.hid (fun (W : World) (h : Reads encP (.slice A l.length c) l W) => pointsFault1_any l (by omega) most h)
  obtain ⟨E1, hE1⟩ : ∃ E, ptsErr most l = E := ⟨_, rfl⟩
  rw [hE1] at C1 C2
  have HE1 := Lib.hid hE1
  clear hE1
  have s1 : (E1 != E1) = false := by simp
  go_wp2_with fail
  refine (C1.out w5 H5.out.rd).mono ?_
  rintro e w6 ⟨rfl, b6⟩
  have H6 := Lib.hid (H5.out.then_ b6)
  clear b6 H5
  go_wp2_with fail
  refine (C2.out w6 H6.out.rd).mono ?_
  rintro e w7 ⟨rfl, b7⟩
  have H7 := Lib.hid (H6.out.then_ b7)
  clear b7 H6 C1 C2
  go_upto_region 5 with (fail)
  clear s1 HE1
  have CD := Lib.hid (fun W => distanceE_any (x1, y1) (x2, y2) W)
  have CF := Lib.hid (fun (W : World) (v : Value) (h : Reads encP v [(x1, y1), (x2, y2)] W) => pointFault_any [(x1, y1), (x2, y2)] (by simp) h)
  rw [distE_ptsE] at CF
  have CAP := Lib.hid (fun ha hb W => apart_any (x1, y1) (x2, y2) ha hb W)
  dsimp only at CD CAP
  obtain ⟨dE, hdE⟩ : ∃ d, distE (x1, y1) (x2, y2) = d := ⟨_, rfl⟩
  obtain ⟨dV, hdV⟩ : ∃ d, distV (x1, y1) (x2, y2) = d := ⟨_, rfl⟩
  rw [hdE, hdV] at CD
  rw [hdE] at CF
  have HD : Hid ((∃ ha : okPt (x1, y1) = true ∧ okPt (x2, y2) = true, dE = 0 ∧ dV = apart (x1, y1) (x2, y2)) ∨ (dE = 1 ∧ dV = 0)) := by
    by_cases h : okPt (x1, y1) = true ∧ okPt (x2, y2) = true
    · exact .inl ⟨h, by rw [← hdE]; exact if_pos h, by rw [← hdV]; exact if_pos h⟩
    · exact .inr ⟨by rw [← hdE]; exact if_neg h, by rw [← hdV]; exact if_neg h⟩
  clear hdE hdV
  obtain ⟨p0, p1, _, _⟩ := blk2 H7.out.k1
  obtain ⟨r0, r1, _, _⟩ := blk2 H7.out.k2
  have hpl := lt_of_blk H7.out.k1
  have hrl := lt_of_blk H7.out.k2
  go_wp2_with fail
  refine (CD.out w7).mono ?_
  rintro e w8 ⟨rfl, b8⟩
  have H8 := Lib.hid (H7.out.then_ b8)
  clear b8 H7 CD p0 p1 r0 r1 hpl hrl
  obtain ⟨p0, p1, _, _⟩ := blk2 H8.out.k1
  obtain ⟨r0, r1, _, _⟩ := blk2 H8.out.k2
  have hpl := lt_of_blk H8.out.k1
  have hrl := lt_of_blk H8.out.k2
  go_wp2_with fail
  refine (CF.out _ _ (two_reads (blk_new w8 _ rfl))).mono ?_
  rintro e w9 ⟨rfl, b9⟩
  have H9 := Lib.hid ((H8.out.then_ ((Below.refl _ _).alloc (Nat.le_refl _) _)).then_ b9)
  clear b9 H8 CF p0 p1 r0 r1 hpl hrl
  go_upto_region 7 with (fail)
  go_cut [70] (fun v70 wc => v70 = .bool false ∧ Hid (L7 wo w.heap.size g1 g2 (x1, y1) (x2, y2) (.slice A l.length c) l wc))
  case first => as_aux_lemma =>
    obtain ⟨p0, p1, _, _⟩ := blk2 H9.out.k1
    obtain ⟨r0, r1, _, _⟩ := blk2 H9.out.k2
    have hpl := lt_of_blk H9.out.k1
    have hrl := lt_of_blk H9.out.k2
    have hD := HD.out
    rcases hD with ⟨⟨ha, hb⟩, rfl, rfl⟩ | ⟨rfl, rfl⟩
    · have CP2 := Lib.hid (CAP.out ha hb w9)
      generalize apart (x1, y1) (x2, y2) = ap at *
      have s1 : (ap != ap) = false := by simp
      clear ha hb
      go_wp2_with fail
      refine CP2.out.mono ?_
      rintro e wA ⟨rfl, bA⟩
      have HA2 := Lib.hid (H9.out.then_ bA)
      clear bA H9 p0 p1 r0 r1 hpl hrl
      go_wp2_with fail
      go_meet
      exact ⟨rfl, HA2⟩
    · go_wp2_with fail
      go_meet
      exact ⟨rfl, H9⟩
  case rest => as_aux_lemma =>
    obtain ⟨rfl, HB⟩ := hcut
    clear H9 HD CAP
    have hBw := (HKB.out wc HB.out.tk.2)
    have C1 := Lib.hid (ptText_any l (by omega) wc HB.out.rd (hGl.below hBw hw) (Nat.le_trans hw hBw.size))
    have CF := Lib.hid (fun (W : World) (h : Reads encP (.slice A l.length c) l W) => pointsFault1_any l (by omega) 500 h)
    have CPL := Lib.hid (fun (h0 : ptsErr 500 l = 0) (W : World) (h : Reads encP (.slice A l.length c) l W) (hb : Below w.heap.size w W) => pointLines_any l (by omega) (ptsErr_ok h0).2 W h (hGl.below hb hw) (Nat.le_trans hw hb.size))
    obtain ⟨TX, hTX⟩ : ∃ T, (if ptsErr 500 l = 0 then ptsB l else dS) = T := ⟨_, rfl⟩
    rw [hTX] at C1
    have HT : Hid ((ptsErr 500 l = 0 → TX = ptsB l) ∧ (ptsErr 500 l ≠ 0 → TX = dS)) := ⟨fun h => by rw [← hTX, if_pos h], fun h => by rw [← hTX, if_neg h]⟩
    clear hTX hBw
    generalize ptsErr 500 l = E at *
    go_wp2_with fail
    refine C1.out.mono ?_
    rintro e wD ⟨rfl, bD⟩
    have HD := Lib.hid (HB.out.then_ bD)
    clear bD HB C1
    go_wp2_with fail
    refine (CF.out _ HD.out.rd).mono ?_
    rintro e wE ⟨rfl, bE⟩
    have HE := Lib.hid (HD.out.then_ bE)
    clear bE HD CF
    go_upto_region 11 with (fail)
    go_cut [98] (fun v98 wf => v98 = .bool false ∧ Hid (L7 wo w.heap.size g1 g2 (x1, y1) (x2, y2) (.slice A l.length c) l wf))
    case first => as_aux_lemma =>
      have s1 : (E != E) = false := by simp
      by_cases h0 : E = 0
      · have CP := Lib.hid (CPL.out h0 wE HE.out.rd (HKB.out wE HE.out.tk.2))
        obtain rfl := HT.out.1 h0
        subst h0
        go_wp2_with fail
        refine CP.out.mono ?_
        rintro e wF ⟨rfl, bF⟩
        have HF := Lib.hid (HE.out.then_ bF)
        clear bF HE
        go_wp2_with fail
        go_meet
        exact ⟨by simp, HF⟩
      · have s2 : (E == 0) = false := by simpa using h0
        have s3 : (E != 0) = true := by simpa using h0
        obtain rfl := HT.out.2 h0
        go_wp2_with fail
        go_meet
        exact ⟨by have hz : dS.toList.isEmpty = true := by rw [Lib.toList_data]; rfl
                  rw [hz]; rfl, HE⟩
    case rest => as_aux_lemma =>
      obtain ⟨rfl, HF⟩ := hcut
      clear HE HT CPL
      have CS := Lib.hid (pointString_any w.heap.size 60 wc (by omega) HF.out.tk.1 (hGl.below (HKB.out wc HF.out.tk.2) hw) hw)
      go_wp2_with fail
      refine CS.out.mono ?_
      rintro e wg ⟨T, rfl, hT, tg⟩
      have HG := Lib.hid (HKB.out wg (HF.out.tk.2.then_ tg.2))
      clear tg HF CS
      have CR := Lib.hid (ptRead_any T (by omega) wg (hGl.below HG.out hw) (Nat.le_trans hw HG.out.size))
      have CQ := Lib.hid (fun (W : World) (h : Below w.heap.size w W) => ptRef_any T (by omega) W (hGl.below h hw) (Nat.le_trans hw h.size))
      have hlen : (ptOut T).1.length ≤ 2000000 := by
        unfold ptOut
        split
        · exact Nat.zero_le _
        · split
          · exact Nat.zero_le _
          · split
            · rename_i h
              have := (ptsErr_ok h).1
              simp only
              omega
            · exact Nat.zero_le _
      generalize ptOut T = R at *
      obtain ⟨pl, ln, er⟩ := R
      dsimp only at CR CQ hlen
      go_wp2_with fail
      refine CR.out.mono ?_
      rintro e wh ⟨u1, rfl, bh, ru1⟩
      have HH := Lib.hid (And.intro (HG.out.then_below bh HG.out.size) ru1)
      clear bh ru1 HG CR
      go_wp2_with fail
      refine (CQ.out wh HH.out.1).mono ?_
      rintro e wi ⟨u2, rfl, bi, ru2⟩
      have HI := Lib.hid (And.intro (HH.out.1.then_below bi HH.out.1.size) (And.intro (HH.out.2.below bi) ru2))
      clear bi ru2 HH CQ
      have CE := Lib.hid (equalPt_any pl hlen u1 u2 wi HI.out.2.1 HI.out.2.2)
      have s1 : (er == er) = true := by simp
      have s2 : (ln == ln) = true := by simp
      go_wp2_with fail
      refine CE.out.mono ?_
      rintro e wj ⟨rfl, bj⟩
      have HJ := Lib.hid (HI.out.1.then_below bj HI.out.1.size)
      clear bj HI CE
      go_wp2_with fail
      refine (toured_any wj).mono ?_
      rintro e wk ⟨rfl, bk⟩
      have HK := Lib.hid (HJ.out.then_below bk HJ.out.size)
      clear bk HJ
      go_wp2_with fail
      go_ret
      exact ⟨rfl, HK.out⟩
end Go.Proofs.YtbkbjljkfhahbaaGreatDoor
