/-
  The walk of the law CataloguesChecked.
-/
import Derived.Test.YtiooimfkobjpkaaGreatDoorTdE
import Derived.Test.YtiooimfkobjpkaaGreatDoorTcU
import Derived.Test.YtiooimfkobjpkaaGreatDoorTcM1
import Derived.Deep.DeepCutAuto
namespace Go.Proofs.YtiooimfkobjpkaaGreatDoor
open Go.RowKit
set_option linter.unusedSimpArgs false
set_option linter.unusedVariables false

theorem kept_belowL {sb : Nat} {w w' : World} {o : Obj} (hs : sb = w.heap.size) (h : Kept sb (w.alloc o) w') : Below w.heap.size w w' := by
  subst hs
  obtain ⟨a, b, c⟩ := h.outer
  refine ⟨a, b, c, by have := h.more; simp at this; omega, fun k hk => ?_⟩
  exact (h.old k (by simp; omega) (by omega)).trans (Below.heap_alloc w o k hk)
structure L8 (wo : World) (sb gc : Nat) (v1 v2 : Value) (l : List Pa) (al : List Al) (W : World) : Prop where
  tk : Took sb 800 wo W
  kc : W.heap[gc]? = some (.cells #[v1, v2] 29 (0, 0))
  r1 : Reads encPa v1 l W
  r2 : Reads encAl v2 al W
theorem L8.then_ {wo : World} {sb gc : Nat} {v1 v2 : Value} {l : List Pa} {al : List Al} {W W' : World} (h : L8 wo sb gc v1 v2 l al W) (hb : Below W.heap.size W W') : L8 wo sb gc v1 v2 l al W' :=
  ⟨h.tk.below hb, blk_below hb h.kc, h.r1.below hb, h.r2.below hb⟩
theorem catErr_len {l : List Pa} {al : List Al} (h : catErr l al = 0) : l.length ≤ 1000 ∧ al.length ≤ 2000 := by
  obtain ⟨h1, h2⟩ := thenE_zero h
  obtain ⟨h3, _⟩ := thenE_zero h2
  unfold paErrs at h1
  unfold altsErr at h3
  constructor
  · rcases Nat.lt_or_ge 1000 l.length with h | h
    · rw [if_pos h] at h1; cases h1
    · exact h
  · rcases Nat.lt_or_ge 2000 al.length with h | h
    · rw [if_pos h] at h3; cases h3
    · exact h
theorem catOut_len (T : ByteArray) : (catOut T).1.1.length ≤ 1000 ∧ (catOut T).1.2.length ≤ 2000 := by
  unfold catOut
  split
  · exact ⟨Nat.zero_le _, Nat.zero_le _⟩
  · split
    · exact ⟨Nat.zero_le _, Nat.zero_le _⟩
    · split
      · rename_i h
        exact catErr_len h
      · exact ⟨Nat.zero_le _, Nat.zero_le _⟩

set_option maxRecDepth 100000 in
set_option maxHeartbeats 8000000 in
theorem lawC_any (A0 : Option Addr) (n c0 : Nat) (w : World) (hc : n ≤ c0) (hm : c0 ≤ 9223372036854775807) (hA : IntsAt w A0 n w.heap.size) (hGl : Gl w) (hw : gLow ≤ w.heap.size) :
    Calls Tryz.prog 3 #[.slice A0 n c0] w fun e w' => e = .returned (.bool true) ∧ Below w.heap.size w w' := by
  have hs0 : IsStream (w.alloc (.cells #[.slice A0 n c0, .int .i64 0] 25)) w.heap.size 0 := by
    refine ⟨A0, n, c0, 0, hc, hm, Nat.le_refl _, blk_new w _ rfl, fun hn => ?_⟩
    obtain ⟨ad, e, h1, h2, h3⟩ := hA hn
    refine ⟨ad, e, by simp; omega, h2, fun k hk => ?_⟩
    obtain ⟨x, hx⟩ := h3 k hk
    exact ⟨x, ((((Below.refl w.heap.size w).alloc (Nat.le_refl _) _).cell (by rw [addr_block]; exact h1))).trans hx⟩
  obtain ⟨wo, hwo⟩ : ∃ wo, wo = w.alloc (.cells #[.slice A0 n c0, .int .i64 0] 25) := ⟨_, rfl⟩
  have HWO : Hid (Below w.heap.size w wo ∧ w.heap.size < wo.heap.size) := ⟨by rw [hwo]; exact (Below.refl _ _).alloc (Nat.le_refl _) _, by rw [hwo]; simp⟩
  have HW := Lib.hid hwo
  rw [← hwo] at hs0
  clear hwo
  have H0 := Lib.hid (Took.refl hs0)
  have hwz := HWO.out.2
  have HKB : Hid (∀ W, Kept w.heap.size wo W → Below w.heap.size w W) := fun W h => kept_belowL rfl (by rw [HW.out] at h; exact h)
  go_enter Tryz.func3, Tryz.ntmps3
  go_upto_region 2 with (fail)
  rw [← HW.out]
  have CA := Lib.hid (catOf_any spoil_ok w.heap.size 0 wo (by omega) H0.out.1)
  go_wp2_with fail
  refine CA.out.mono ?_
  rintro e w1 ⟨v1, v2, l, al, rfl, hl5, hal5, s1, s2, o1, o2, t1⟩
  obtain ⟨A1, k1, rfl, _⟩ := own_form o1
  obtain ⟨A2, k2, rfl, _⟩ := own_form o2
  have hb1 : Below w1.heap.size w1 (w1.alloc (.cells #[.slice A1 l.length k1, .slice A2 al.length k2] 29)) := (Below.refl _ _).alloc (Nat.le_refl _) _
  have H1 : Hid (L8 wo w.heap.size w1.heap.size (.slice A1 l.length k1) (.slice A2 al.length k2) l al (w1.alloc (.cells #[.slice A1 l.length k1, .slice A2 al.length k2] 29))) :=
    ⟨(t1.more (by omega)).below hb1, blk_new w1 _ rfl, (reads_own o1).below hb1, (reads_own o2).below hb1⟩
  have HS := Lib.hid (And.intro (sm_pa s1) (sm_al s2))
  clear CA o1 o2 s1 s2 t1 hb1
  go_upto_region 3 with (fail)
  generalize w1.alloc (.cells #[.slice A1 l.length k1, .slice A2 al.length k2] 29) = w2 at *
  generalize w1.heap.size = gc at *
  have C1 := Lib.hid (fun (W : World) (h : L8 wo w.heap.size gc (.slice A1 l.length k1) (.slice A2 al.length k2) l al W) => catFault_any l (by omega) HS.out.1 al (by omega) HS.out.2 h.r1 h.r2)
  have C2 := Lib.hid (fun (W : World) (h : L8 wo w.heap.size gc (.slice A1 l.length k1) (.slice A2 al.length k2) l al W) => checkCat_any l (by omega) HS.out.1 al (by omega) HS.out.2 h.r1 h.r2)
  have C3 := Lib.hid (fun (W : World) (h : L8 wo w.heap.size gc (.slice A1 l.length k1) (.slice A2 al.length k2) l al W) (hb : Below w.heap.size w W) => catText_any l (by omega) HS.out.1 al (by omega) HS.out.2 W h.r1 h.r2 (hGl.below hb hw) (Nat.le_trans hw hb.size))
  have C4 := Lib.hid (fun (h0 : catErr l al = 0) (W : World) (h : L8 wo w.heap.size gc (.slice A1 l.length k1) (.slice A2 al.length k2) l al W) (hb : Below w.heap.size w W) => catLines_any l (by omega) al (by omega) h0 W h.r1 h.r2 (hGl.below hb hw) (Nat.le_trans hw hb.size))
  obtain ⟨TX, hTX⟩ : ∃ T, (if catErr l al = 0 then catB l al else dS) = T := ⟨_, rfl⟩
  rw [hTX] at C3
  have HT : Hid ((catErr l al = 0 → TX = catB l al) ∧ (catErr l al ≠ 0 → TX = dS)) := ⟨fun h => by rw [← hTX, if_pos h], fun h => by rw [← hTX, if_neg h]⟩
  clear hTX
  generalize catErr l al = E at *
  have z1 : (E != E) = false := by simp
  obtain ⟨p0, p1, _, _⟩ := blk2 H1.out.kc
  have hpl := lt_of_blk H1.out.kc
  go_wp2_with fail
  refine (C1.out w2 H1.out).mono ?_
  rintro e w3 ⟨rfl, b3⟩
  have H3 := Lib.hid (H1.out.then_ b3)
  clear b3 H1 C1 p0 p1 hpl
  obtain ⟨p0, p1, _, _⟩ := blk2 H3.out.kc
  have hpl := lt_of_blk H3.out.kc
  go_wp2_with fail
  refine (C2.out w3 H3.out).mono ?_
  rintro e w4 ⟨rfl, b4⟩
  have H4 := Lib.hid (H3.out.then_ b4)
  clear b4 H3 C2 p0 p1 hpl
  obtain ⟨p0, p1, _, _⟩ := blk2 H4.out.kc
  have hpl := lt_of_blk H4.out.kc
  go_wp2_with fail
  refine (C3.out w4 H4.out (HKB.out w4 H4.out.tk.2)).mono ?_
  rintro e w5 ⟨rfl, b5⟩
  have H5 := Lib.hid (H4.out.then_ b5)
  clear b5 H4 C3 p0 p1 hpl
  go_upto_region 7 with (fail)
  go_cut [51] (fun v51 wc => v51 = .bool false ∧ Hid (L8 wo w.heap.size gc (.slice A1 l.length k1) (.slice A2 al.length k2) l al wc))
  case first => as_aux_lemma =>
    obtain ⟨p0, p1, _, _⟩ := blk2 H5.out.kc
    have hpl := lt_of_blk H5.out.kc
    by_cases h0 : E = 0
    · have CP := Lib.hid (C4.out h0 w5 H5.out (HKB.out w5 H5.out.tk.2))
      obtain rfl := HT.out.1 h0
      subst h0
      go_wp2_with fail
      refine CP.out.mono ?_
      rintro e wF ⟨rfl, bF⟩
      have HF := Lib.hid (H5.out.then_ bF)
      clear bF H5 p0 p1 hpl
      go_wp2_with fail
      go_meet
      exact ⟨by simp, HF⟩
    · have s2 : (E == 0) = false := by simpa using h0
      have s3 : (E != 0) = true := by simpa using h0
      obtain rfl := HT.out.2 h0
      go_wp2_with fail
      go_meet
      exact ⟨by have hz : dS.toList.isEmpty = true := by rw [Lib.toList_data]; rfl
                rw [hz]; rfl, H5⟩
  case rest => as_aux_lemma =>
    obtain ⟨rfl, HF⟩ := hcut
    clear H5 HT C4 z1
    have CS := Lib.hid (catString_any w.heap.size 800 wc (by omega) HF.out.tk.1 (hGl.below (HKB.out wc HF.out.tk.2) hw) hw)
    go_wp2_with fail
    refine CS.out.mono ?_
    rintro e wg ⟨T, rfl, hT, tg⟩
    have HG := Lib.hid (HKB.out wg (HF.out.tk.2.then_ tg.2))
    clear tg HF CS
    have CR := Lib.hid (catRead_any T (by omega) wg (hGl.below HG.out hw) (Nat.le_trans hw HG.out.size))
    have CQ := Lib.hid (fun (W : World) (h : Below w.heap.size w W) => catRef_any T (by omega) W (hGl.below h hw) (Nat.le_trans hw h.size))
    have hlen := catOut_len T
    generalize catOut T = R at *
    obtain ⟨⟨pl, pa⟩, ln, er⟩ := R
    dsimp only at CR CQ hlen
    obtain ⟨hlen1, hlen2⟩ := hlen
    go_wp2_with fail
    refine CR.out.mono ?_
    rintro e wh ⟨u1, rfl, bh, x1, x2, rfl, rx1, rx2⟩
    obtain ⟨X1, m1, rfl, _⟩ := id rx1
    obtain ⟨X2, m2, rfl, _⟩ := id rx2
    have hbh : Below wh.heap.size wh (wh.alloc (.cells #[.slice X1 pl.length m1, .slice X2 pa.length m2] 29)) := (Below.refl _ _).alloc (Nat.le_refl _) _
    have HH : Hid (Below w.heap.size w (wh.alloc (.cells #[.slice X1 pl.length m1, .slice X2 pa.length m2] 29)) ∧ (wh.alloc (.cells #[.slice X1 pl.length m1, .slice X2 pa.length m2] 29)).heap[wh.heap.size]? = some (.cells #[.slice X1 pl.length m1, .slice X2 pa.length m2] 29 (0, 0)) ∧ Reads encPa (.slice X1 pl.length m1) pl (wh.alloc (.cells #[.slice X1 pl.length m1, .slice X2 pa.length m2] 29)) ∧ Reads encAl (.slice X2 pa.length m2) pa (wh.alloc (.cells #[.slice X1 pl.length m1, .slice X2 pa.length m2] 29))) :=
      ⟨(HG.out.then_below bh HG.out.size).then_below hbh (by have := HG.out.size; have := bh.size; omega), blk_new wh _ rfl, rx1.below hbh, rx2.below hbh⟩
    clear bh hbh rx1 rx2 HG CR
    go_upto_region 11 with (fail)
    generalize wh.alloc (.cells #[.slice X1 pl.length m1, .slice X2 pa.length m2] 29) = wi at *
    generalize wh.heap.size = g1 at *
    go_wp2_with fail
    refine (CQ.out wi HH.out.1).mono ?_
    rintro e wj ⟨u2, rfl, bj, y1, y2, rfl, ry1, ry2⟩
    obtain ⟨Y1, n1, rfl, _⟩ := id ry1
    obtain ⟨Y2, n2, rfl, _⟩ := id ry2
    have hbj : Below wj.heap.size wj (wj.alloc (.cells #[.slice Y1 pl.length n1, .slice Y2 pa.length n2] 29)) := (Below.refl _ _).alloc (Nat.le_refl _) _
    have HJ : Hid (Below w.heap.size w (wj.alloc (.cells #[.slice Y1 pl.length n1, .slice Y2 pa.length n2] 29)) ∧ (wj.alloc (.cells #[.slice Y1 pl.length n1, .slice Y2 pa.length n2] 29)).heap[g1]? = some (.cells #[.slice X1 pl.length m1, .slice X2 pa.length m2] 29 (0, 0)) ∧ (wj.alloc (.cells #[.slice Y1 pl.length n1, .slice Y2 pa.length n2] 29)).heap[wj.heap.size]? = some (.cells #[.slice Y1 pl.length n1, .slice Y2 pa.length n2] 29 (0, 0)) ∧ Reads encPa (.slice X1 pl.length m1) pl (wj.alloc (.cells #[.slice Y1 pl.length n1, .slice Y2 pa.length n2] 29)) ∧ Reads encAl (.slice X2 pa.length m2) pa (wj.alloc (.cells #[.slice Y1 pl.length n1, .slice Y2 pa.length n2] 29)) ∧ Reads encPa (.slice Y1 pl.length n1) pl (wj.alloc (.cells #[.slice Y1 pl.length n1, .slice Y2 pa.length n2] 29)) ∧ Reads encAl (.slice Y2 pa.length n2) pa (wj.alloc (.cells #[.slice Y1 pl.length n1, .slice Y2 pa.length n2] 29))) :=
      ⟨(HH.out.1.then_below bj HH.out.1.size).then_below hbj (by have := HH.out.1.size; have := bj.size; omega), blk_below hbj (blk_below bj HH.out.2.1), blk_new wj _ rfl, (HH.out.2.2.1.below bj).below hbj, (HH.out.2.2.2.below bj).below hbj, ry1.below hbj, ry2.below hbj⟩
    clear bj hbj ry1 ry2 HH CQ
    go_upto_region 12 with (fail)
    generalize wj.alloc (.cells #[.slice Y1 pl.length n1, .slice Y2 pa.length n2] 29) = wk at *
    generalize wj.heap.size = g2 at *
    have CE := Lib.hid (sameCat_any pl (by omega) pa (by omega) HJ.out.2.2.2.1 HJ.out.2.2.2.2.1 HJ.out.2.2.2.2.2.1 HJ.out.2.2.2.2.2.2)
    have s1 : (er == er) = true := by simp
    have s2 : (ln == ln) = true := by simp
    obtain ⟨p0, p1, _, _⟩ := blk2 HJ.out.2.1
    have hpl := lt_of_blk HJ.out.2.1
    obtain ⟨r0, r1, _, _⟩ := blk2 HJ.out.2.2.1
    have hrl := lt_of_blk HJ.out.2.2.1
    go_wp2_with fail
    refine CE.out.mono ?_
    rintro e wl ⟨rfl, bl⟩
    have HL := Lib.hid (HJ.out.1.then_below bl HJ.out.1.size)
    clear bl HJ CE p0 p1 r0 r1 hpl hrl
    go_wp2_with fail
    refine (aged_any wl).mono ?_
    rintro e wm ⟨rfl, rfl⟩
    go_wp2_with fail
    go_ret
    exact ⟨rfl, HL.out⟩
end Go.Proofs.YtiooimfkobjpkaaGreatDoor
