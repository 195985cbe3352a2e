/-
  Catalogues: the program's check.
-/
import Derived.Test.YtiooimfkobjpkaaGreatDoorTcR
namespace Go.Proofs.YtiooimfkobjpkaaGreatDoor
open Go.RowKit Go.WideMaps Go.Maps
set_option linter.unusedSimpArgs false
set_option linter.unusedVariables false

set_option maxHeartbeats 4000000 in
theorem checkCat_any (l : List Pa) (hl : l.length ≤ 1000000) (hk : ∀ p ∈ l, p.key.size ≤ maxLen ∧ p.pk.size ≤ maxLen) (al : List Al) (ha : al.length ≤ 400000) (hz : ∀ a ∈ al, a.par.size ≤ maxLen ∧ a.by_.size ≤ maxLen) {pv av : Value} {w : World} (h1 : Reads encPa pv l w) (h2 : Reads encAl av al w) :
    Calls Tryz.prog 6 #[.agg #[pv, av]] w fun e w' => e = .returned (.int .i64 (catErr l al)) ∧ Below w.heap.size w w' := by
  have C1 := Lib.hid (fun (W : World) (h : Reads encPa pv l W) => checkPartsN_any l hl h)
  have C2 := Lib.hid (fun (W : World) (h : Reads encPa pv l W) (h2 : Reads encAl av al W) => checkAlternatesN_any l hl (fun p hp => (hk p hp).1) al (by omega) hz h h2)
  have C3 := Lib.hid (fun (W : World) (h : Reads encAl av al W) => replacedTwice_any al ha hz h)
  have HR1 := Lib.hid h1
  have HR2 := Lib.hid h2
  obtain ⟨Ap, cp, rfl, _⟩ := h1
  obtain ⟨Aa, ca, rfl, _⟩ := h2
  clear hk hz
  have H0 : Hid (CT w (.slice Ap l.length cp) (.slice Aa al.length ca) (w.alloc (.cells #[.slice Ap l.length cp, .slice Aa al.length ca] 29))) := ⟨(Below.refl _ _).alloc (Nat.le_refl _) _, blk_new w _ rfl⟩
  have HE0 : Hid (catErr l al = thenE (paErrs l) (thenE (altsErr l al) (twE al))) := rfl
  have HTW : Hid (twE al = if twB (dirs al) = true then 6 else 0) := rfl
  generalize catErr l al = E at *
  generalize paErrs l = E1 at *
  generalize altsErr l al = E2 at *
  generalize twE al = E3 at *
  generalize twB (dirs al) = tw at *
  go_enter Tryz.func6, Tryz.ntmps6
  go_upto_region 1 with (fail)
  generalize w.alloc (.cells #[.slice Ap l.length cp, .slice Aa al.length ca] 29) = w0 at *
  obtain ⟨c0, c1, _, _⟩ := blk2 H0.out.k0
  have hgl := lt_of_blk H0.out.k0
  go_wp2_with fail
  refine (C1.out w0 (HR1.out.below H0.out.bel)).mono ?_
  rintro e w1 ⟨rfl, b1⟩
  have H1 := Lib.hid (H0.out.below b1)
  clear b1 H0 c0 c1 hgl C1
  obtain ⟨c0, c1, _, _⟩ := blk2 H1.out.k0
  have hgl := lt_of_blk H1.out.k0
  by_cases he1 : E1 = 0
  rotate_left
  · have HZ : Hid (E = E1) := HE0.out.trans (if_neg he1)
    have hne2 : (E1 != 0) = true := by simpa using he1
    go_wp2_with fail
    go_ret
    exact ⟨ret_int HZ.out.symm, H1.out.bel⟩
  subst he1
  have HE1 : Hid (E = thenE E2 E3) := HE0.out.trans (if_pos rfl)
  clear HE0
  go_wp2_with fail
  refine (C2.out w1 (HR1.out.below H1.out.bel) (HR2.out.below H1.out.bel)).mono ?_
  rintro e w2 ⟨rfl, b2⟩
  have H2 := Lib.hid (H1.out.below b2)
  clear b2 H1 c0 c1 hgl C2
  obtain ⟨c0, c1, _, _⟩ := blk2 H2.out.k0
  have hgl := lt_of_blk H2.out.k0
  by_cases he2 : E2 = 0
  rotate_left
  · have HZ : Hid (E = E2) := HE1.out.trans (if_neg he2)
    have hne2 : (E2 != 0) = true := by simpa using he2
    go_wp2_with fail
    go_ret
    exact ⟨ret_int HZ.out.symm, H2.out.bel⟩
  subst he2
  have HE2 : Hid (E = E3) := HE1.out.trans (if_pos rfl)
  clear HE1
  go_wp2_with fail
  refine (C3.out w2 (HR2.out.below H2.out.bel)).mono ?_
  rintro e w3 ⟨rfl, b3⟩
  have H3 := Lib.hid (H2.out.below b3)
  clear b3 H2 c0 c1 hgl C3
  cases tw
  · have HZ : Hid (E = 0) := HE2.out.trans (HTW.out.trans (if_neg (by simp)))
    go_wp2_with fail
    go_ret
    exact ⟨ret_int HZ.out.symm, H3.out.bel⟩
  · have HZ : Hid (E = 6) := HE2.out.trans (HTW.out.trans (if_pos rfl))
    go_wp2_with fail
    go_ret
    exact ⟨ret_int HZ.out.symm, H3.out.bel⟩
end Go.Proofs.YtiooimfkobjpkaaGreatDoor
