/-
  The program reads catalogues.
-/
import Derived.Test.YtiooimfkobjpkaaGreatDoorTcX
namespace Go.Proofs.YtiooimfkobjpkaaGreatDoor
open Go.RowKit
set_option linter.unusedSimpArgs false
set_option linter.unusedVariables false

def catScan (text : ByteArray) : Except Nat St := scanT (stepW takeCat) text.size 0 ([], []) text
def catOut (text : ByteArray) : St × Int × Int :=
  if 200000 < text.size then (([], []), 0, 2)
  else match catScan text with
    | .error i => (([], []), i, 9)
    | .ok st => if catErr st.1 st.2 = 0 then (st, 0, 0) else (([], []), 0, catErr st.1 st.2)
/-- A catalogue that is returned. -/
def CatVal (v : Value) (st : St) (w : World) : Prop := ∃ v1 v2, v = .agg #[v1, v2] ∧ Reads encPa v1 st.1 w ∧ Reads encAl v2 st.2 w
theorem cat0_val (w : World) : CatVal (.agg #[.slice none 0 0, .slice none 0 0]) ([], []) w := ⟨_, _, rfl, ⟨none, 0, rfl, .inl rfl⟩, ⟨none, 0, rfl, .inl rfl⟩⟩
theorem CatVal.below {v : Value} {st : St} {w w' : World} (h : CatVal v st w) (hb : Below w.heap.size w w') : CatVal v st w' := by
  obtain ⟨v1, v2, e, h1, h2⟩ := h
  exact ⟨v1, v2, e, h1.below hb, h2.below hb⟩
theorem set2 {w0 w : World} {base g : Nat} {a b : Value} {t : TypeId} (hB : Below base w0 w) (hg : base ≤ g) (h : w.heap[g]? = some (.cells #[a, b] t (0, 0))) (x y : Value) :
    Below base w0 ((w.setCell ⟨g, 0, none⟩ x).setCell ⟨g, 1, none⟩ y) ∧ ((w.setCell ⟨g, 0, none⟩ x).setCell ⟨g, 1, none⟩ y).heap[g]? = some (.cells #[x, y] t (0, 0)) :=
  ⟨(hB.setCell hg _).setCell hg _, blk_set (blk_set h _) _⟩

set_option maxHeartbeats 8000000 in
theorem catRead_any (text : ByteArray) (hs : text.size ≤ 1000000) (w : World) (hG : Gl w) (hw : gLow ≤ w.heap.size) :
    Calls Tryz.prog 10 #[.string text] w fun e w' => ∃ v, e = .returned (.tuple #[v, .int .i64 (catOut text).2.1, .int .i64 (catOut text).2.2]) ∧ Below w.heap.size w w' ∧ CatVal v (catOut text).1 w' := by
  have HO : Hid (catOut text = if 200000 < text.size then (([], []), 0, 2) else match catScan text with | .error i => (([], []), (i : Int), 9) | .ok st => if catErr st.1 st.2 = 0 then (st, 0, 0) else (([], []), 0, catErr st.1 st.2)) := rfl
  have CS := Lib.hid (fun (W : World) (hW : Below w.heap.size w W) (hcb : w.heap.size + 1 < W.heap.size) (hp : W.heap[w.heap.size + 1]? = some (.cells #[.slice none 0 0, .slice none 0 0] 29 (0, 0))) =>
    scan_any 37 (enters_of Tryz.func37 (by kernel_rfl) rfl) (w.heap.size + 1) (w.heap.size + 1) takeCat (CatAt (w.heap.size + 1)) (fun _ _ _ _ h hb => h.below hb) (readCat_takes _ _ (Nat.le_refl _)) text (by omega) ([], []) W (hG.below hW hw) (by omega) (by omega) ⟨⟨_, _, hp, World.ownsRow_nil _ _ _ _, World.ownsRow_nil _ _ _ _⟩, Nat.le_refl _, (fun p hp => by cases hp), (fun p hp => by cases hp)⟩)
  rw [show scanT (stepW takeCat) text.size 0 ([], []) text = catScan text from rfl] at CS
  generalize catOut text = out at *
  go_enter Tryz.func10, Tryz.ntmps10
  go_upto_region 2 with (fail)
  have HB0 : Hid (Below w.heap.size w ((w.alloc (.cells #[.slice none 0 0, .slice none 0 0] 29)).alloc (.cells #[.slice none 0 0, .slice none 0 0] 29))) := ((Below.refl _ _).alloc (Nat.le_refl _) _).alloc (by simp) _
  have HR0 : Hid (((w.alloc (.cells #[.slice none 0 0, .slice none 0 0] 29)).alloc (.cells #[.slice none 0 0, .slice none 0 0] 29)).heap[w.heap.size]? = some (.cells #[.slice none 0 0, .slice none 0 0] 29 (0, 0))) := blk_alloc (blk_new w _ rfl) _
  have HP0 : Hid (((w.alloc (.cells #[.slice none 0 0, .slice none 0 0] 29)).alloc (.cells #[.slice none 0 0, .slice none 0 0] 29)).heap[w.heap.size + 1]? = some (.cells #[.slice none 0 0, .slice none 0 0] 29 (0, 0))) := blk_new _ _ (by simp)
  have hz0 : w.heap.size + 1 < ((w.alloc (.cells #[.slice none 0 0, .slice none 0 0] 29)).alloc (.cells #[.slice none 0 0, .slice none 0 0] 29)).heap.size := by simp
  generalize (w.alloc (.cells #[.slice none 0 0, .slice none 0 0] 29)).alloc (.cells #[.slice none 0 0, .slice none 0 0] 29) = wx at *
  have CX := Lib.hid (CS.out wx HB0.out hz0 HP0.out)
  clear CS
  go_wp2_with fail
  refine CX.out.mono ?_
  rintro e w1 ⟨rfl, b1, hok⟩
  have H1 : Hid (Below w.heap.size w w1 ∧ w1.heap[w.heap.size]? = some (.cells #[.slice none 0 0, .slice none 0 0] 29 (0, 0))) :=
    ⟨HB0.out.trans (b1.mono (by omega)), (b1.block _ (by omega)).trans HR0.out⟩
  have HOK := Lib.hid hok
  clear b1 hok CX HB0 HR0 HP0
  obtain ⟨r0, r1, f0, f1⟩ := blk2 H1.out.2
  have hrl := lt_of_blk H1.out.2
  by_cases hlong : 200000 < text.size
  · have HX : Hid (out = (([], []), 0, 2)) := HO.out.trans (if_pos hlong)
    simp only [if_pos hlong]
    clear HOK HO
    go_wp2_with fail
    have HF := Lib.hid (set2 H1.out.1 (Nat.le_refl _) H1.out.2 (.slice none 0 0) (.slice none 0 0))
    generalize (w1.setCell ⟨w.heap.size, 0, none⟩ (.slice none 0 0)).setCell ⟨w.heap.size, 1, none⟩ (.slice none 0 0) = w2 at *
    clear r0 r1 f0 f1 hrl
    obtain ⟨r0, r1, _, _⟩ := blk2 HF.out.2
    refine bodyPost_ret (v := .tuple #[.agg #[.slice none 0 0, .slice none 0 0], .int .i64 0, .int .i64 2]) (by unfold results; simp only [Tryz.results10]; go_simp) rfl ⟨_, by rw [HX.out], HF.out.1, by rw [HX.out]; exact cat0_val _⟩
  simp only [if_neg hlong]
  cases hR : catScan text with
  | error i =>
    have HX : Hid (out = (([], []), (i : Int), 9)) := by
      refine HO.out.trans ?_
      rw [if_neg hlong, hR]
    simp only [lineOf, errOf]
    clear HOK HO hR
    go_wp2_with fail
    have HF := Lib.hid (set2 H1.out.1 (Nat.le_refl _) H1.out.2 (.slice none 0 0) (.slice none 0 0))
    generalize (w1.setCell ⟨w.heap.size, 0, none⟩ (.slice none 0 0)).setCell ⟨w.heap.size, 1, none⟩ (.slice none 0 0) = w2 at *
    clear r0 r1 f0 f1 hrl
    obtain ⟨r0, r1, _, _⟩ := blk2 HF.out.2
    refine bodyPost_ret (v := .tuple #[.agg #[.slice none 0 0, .slice none 0 0], .int .i64 i, .int .i64 9]) (by unfold results; simp only [Tryz.results10]; go_simp) rfl ⟨_, by rw [HX.out], HF.out.1, by rw [HX.out]; exact cat0_val _⟩
  | ok st =>
    obtain ⟨nn, hpd, hns, hnn⟩ := HOK.out (by omega) st hR
    obtain ⟨v1, v2, hp, ho1, ho2⟩ := hpd.blk
    obtain ⟨A1, c1, rfl, hc1, _⟩ := own_slice' ho1
    obtain ⟨A2, c2, rfl, hc2, _⟩ := own_slice' ho2
    have HX0 : Hid (out = if catErr st.1 st.2 = 0 then (st, 0, 0) else (([], []), 0, catErr st.1 st.2)) := by
      refine HO.out.trans ?_
      rw [if_neg hlong, hR]
    have hlen := hpd.len
    have HP := Lib.hid (And.intro hp (And.intro ho1 ho2))
    have CC := Lib.hid (checkCat_any st.1 (by omega) (fun p hp => by have h := hpd.sp p hp; simp only [maxLen]; omega) st.2 (by omega) (fun p hp => by have h := hpd.sa p hp; simp only [maxLen]; omega) (reads_own ho1) (reads_own ho2))
    obtain ⟨p0, p1, _, _⟩ := blk2 hp
    have hpl2 := lt_of_blk hp
    simp only [lineOf, errOf]
    clear HOK HO hR hp ho1 ho2 hnn hpd
    generalize catErr st.1 st.2 = E at *
    by_cases hE0 : E = 0
    · have HX := Lib.hid (HX0.out.trans (if_pos hE0))
      subst hE0
      go_wp2_with fail
      refine CC.out.mono ?_
      rintro e w2 ⟨rfl, b2⟩
      have H2 : Hid (Below w.heap.size w w2 ∧ w2.heap[w.heap.size]? = some (.cells #[.slice none 0 0, .slice none 0 0] 29 (0, 0)) ∧ w2.heap[w.heap.size + 1]? = some (.cells #[.slice A1 st.1.length c1, .slice A2 st.2.length c2] 29 (0, 0)) ∧ w2.ownsRow (w.heap.size + 1 + 1) 47 4 (.slice A1 st.1.length c1) st.1.length (st.1.flatMap encPa) ∧ w2.ownsRow (w.heap.size + 1 + 1) 51 3 (.slice A2 st.2.length c2) st.2.length (st.2.flatMap encAl)) :=
        ⟨H1.out.1.then_below b2 H1.out.1.size, blk_below b2 H1.out.2, blk_below b2 HP.out.1, own_below HP.out.2.1 b2, own_below HP.out.2.2 b2⟩
      clear b2 CC HX0 HP p0 p1 r0 r1 f0 f1 hrl hpl2
      obtain ⟨p0, p1, _, _⟩ := blk2 H2.out.2.2.1
      have hpl2 := lt_of_blk H2.out.2.2.1
      obtain ⟨r0, r1, f0, f1⟩ := blk2 H2.out.2.1
      have hrl := lt_of_blk H2.out.2.1
      go_wp2_with fail
      have HF := Lib.hid (set2 H2.out.1 (Nat.le_refl _) H2.out.2.1 (.slice A1 st.1.length c1) (.slice A2 st.2.length c2))
      have HV : Hid (CatVal (.agg #[.slice A1 st.1.length c1, .slice A2 st.2.length c2]) st ((w2.setCell ⟨w.heap.size, 0, none⟩ (.slice A1 st.1.length c1)).setCell ⟨w.heap.size, 1, none⟩ (.slice A2 st.2.length c2))) :=
        ⟨_, _, rfl, reads_own (own_far (own_far H2.out.2.2.2.1 (p := ⟨w.heap.size, 0, none⟩) (by show w.heap.size < w.heap.size + 1 + 1; omega) _) (p := ⟨w.heap.size, 1, none⟩) (by show w.heap.size < w.heap.size + 1 + 1; omega) _), reads_own (own_far (own_far H2.out.2.2.2.2 (p := ⟨w.heap.size, 0, none⟩) (by show w.heap.size < w.heap.size + 1 + 1; omega) _) (p := ⟨w.heap.size, 1, none⟩) (by show w.heap.size < w.heap.size + 1 + 1; omega) _)⟩
      generalize (w2.setCell ⟨w.heap.size, 0, none⟩ (.slice A1 st.1.length c1)).setCell ⟨w.heap.size, 1, none⟩ (.slice A2 st.2.length c2) = w3 at *
      clear p0 p1 r0 r1 f0 f1 hrl hpl2
      obtain ⟨r0, r1, _, _⟩ := blk2 HF.out.2
      refine bodyPost_ret (v := .tuple #[.agg #[.slice A1 st.1.length c1, .slice A2 st.2.length c2], .int .i64 0, .int .i64 0]) (by unfold results; simp only [Tryz.results10]; go_simp) rfl ⟨_, by rw [HX.out], HF.out.1, by rw [HX.out]; exact HV.out⟩
    · have HX := Lib.hid (HX0.out.trans (if_neg hE0))
      have hne1 : (E == 0) = false := by simpa using hE0
      have hne2 : (E != 0) = true := by simpa using hE0
      go_wp2_with fail
      refine CC.out.mono ?_
      rintro e w2 ⟨rfl, b2⟩
      have H2 : Hid (Below w.heap.size w w2 ∧ w2.heap[w.heap.size]? = some (.cells #[.slice none 0 0, .slice none 0 0] 29 (0, 0))) :=
        ⟨H1.out.1.then_below b2 H1.out.1.size, blk_below b2 H1.out.2⟩
      clear b2 CC HX0 HP p0 p1 r0 r1 f0 f1 hrl hpl2
      obtain ⟨r0, r1, f0, f1⟩ := blk2 H2.out.2
      have hrl := lt_of_blk H2.out.2
      go_wp2_with fail
      have HF := Lib.hid (set2 H2.out.1 (Nat.le_refl _) H2.out.2 (.slice none 0 0) (.slice none 0 0))
      generalize (w2.setCell ⟨w.heap.size, 0, none⟩ (.slice none 0 0)).setCell ⟨w.heap.size, 1, none⟩ (.slice none 0 0) = w3 at *
      clear r0 r1 f0 f1 hrl
      obtain ⟨r0, r1, _, _⟩ := blk2 HF.out.2
      refine bodyPost_ret (v := .tuple #[.agg #[.slice none 0 0, .slice none 0 0], .int .i64 0, .int .i64 E]) (by unfold results; simp only [Tryz.results10]; go_simp) rfl ⟨_, by rw [HX.out], HF.out.1, by rw [HX.out]; exact cat0_val _⟩
end Go.Proofs.YtiooimfkobjpkaaGreatDoor
