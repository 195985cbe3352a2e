/-
  The program reads a product.
-/
import Derived.Test.YtalconjnjaffkaaGreatDoorTxH
import Derived.Shelf.Abstract
namespace Go.Proofs.YtalconjnjaffkaaGreatDoor
open Go.RowKit
set_option linter.unusedSimpArgs false
set_option linter.unusedVariables false

def takeP (i : Nat) (st : Pd) (ws : List ByteArray) : Option Pd := if i = 0 then rdProd st ws else rdPlace st ws
set_option maxHeartbeats 1000000 in
theorem read1_takes (cb base : Nat) (hcb : base ≤ cb) : Takes 88 cb base takeP (PdAt cb) := by
  intro i st ws v w0 w hi hne hl hz hd hbw hI hb hS
  have C1 := Lib.hid (readProduct_any hz hcb hbw hI hb hS)
  have C2 := Lib.hid (readPlacement_any hi hz hcb hbw hI hb hS)
  by_cases h0 : i = 0
  · have HT : Hid (takeP i st ws = rdProd st ws) := if_pos h0
    subst h0
    clear C2
    go_enter Tryz.func88, Tryz.ntmps88
    go_wp2_with fail
    refine C1.out.mono ?_
    rintro e w1 ⟨rfl, b1, h1⟩
    have HF := Lib.hid (And.intro b1 h1)
    clear b1 h1
    go_wp2_with fail
    go_ret
    exact ⟨by rw [HT.out]; rfl, HF.out.1, fun st' h => HF.out.2 st' (by rw [← HT.out]; exact h)⟩
  · have HT : Hid (takeP i st ws = rdPlace st ws) := if_neg h0
    have hne0 : ((i : Int) == 0) = false := beq_eq_false_iff_ne.mpr (by omega)
    clear C1
    go_enter Tryz.func88, Tryz.ntmps88
    go_wp2_with fail
    refine C2.out.mono ?_
    rintro e w1 ⟨rfl, b1, h1⟩
    have HF := Lib.hid (And.intro b1 h1)
    clear b1 h1
    go_wp2_with fail
    go_ret
    exact ⟨by rw [HT.out]; rfl, HF.out.1, fun st' h => HF.out.2 st' (by rw [← HT.out]; exact h)⟩

def pd0 : Pd := ⟨⟨#[]⟩, 0, 0, []⟩
/-- What a text of a product is. -/
def rdScan (text : ByteArray) : Except Nat Pd := scanT (stepW takeP) text.size 0 pd0 text
def rdOut (text : ByteArray) : Pd × Int × Int :=
  if 200000 < text.size then (pd0, 0, 2)
  else match rdScan text with
    | .error i => (pd0, i, 9)
    | .ok st => if text.size = 0 then (pd0, 0, 9) else if prodErr st.key st.w st.h st.pls = 0 then (st, 0, 0) else (pd0, 0, prodErr st.key st.w st.h st.pls)
/-- A product that is returned. -/
def PdVal (v : Value) (p : Pd) (w : World) : Prop := ∃ (A : Option Addr) (c : Nat), v = .agg #[.string p.key, .int .i64 p.w, .int .i64 p.h, .slice A p.pls.length c] ∧ PlAt w A p.pls ∧ p.pls.length ≤ c
theorem PdVal.below {v : Value} {p : Pd} {w w' : World} (h : PdVal v p w) (hb : Below w.heap.size w w') : PdVal v p w' := by
  obtain ⟨A, c, e, h, hc⟩ := h
  exact ⟨A, c, e, h.below hb, hc⟩
theorem pd0_val (w : World) : PdVal (.agg #[.string ⟨#[]⟩, .int .i64 0, .int .i64 0, .slice none 0 0]) pd0 w := ⟨none, 0, rfl, .inl rfl, Nat.le_refl _⟩
theorem pl_own2 {w : World} {base : Nat} {T : TypeId} {v : Value} {l : List Pl} (h : w.ownsRow base T 5 v l.length (flatP l)) : ∃ A c, v = .slice A l.length c ∧ PlAt w A l ∧ l.length ≤ c := by
  rcases h.2 with ⟨rfl, h0⟩ | ⟨g, cap, cur, rfl, hb, hc, h1, h2, h3, h4⟩
  · have : l = [] := List.length_eq_zero_iff.mp h0
    subst this
    exact ⟨none, 0, rfl, .inl rfl, by simp⟩
  · refine ⟨_, cap, rfl, ?_, h1⟩
    by_cases h0 : l.length = 0
    · exact .inl (List.length_eq_zero_iff.mp h0)
    · obtain ⟨g', _, hv, _, hlt, _, _, hrd⟩ := own_read h (by omega)
      simp only [Value.slice.injEq, true_and, Option.some.injEq, Addr.mk.injEq, and_true] at hv
      obtain ⟨rfl, rfl⟩ := hv
      exact .inr ⟨g, rfl, hlt, hrd⟩

theorem line_far {w : World} {g : Nat} {l : List Value} (h : LineAt w g l) {p : Addr} (hp : g ≠ p.block) (u : Value) : LineAt (w.setCell p u) g l :=
  ⟨by simpa [World.setCell] using h.1, fun j x hx => (cell_farS (q := ⟨g, j, none⟩) hp u).trans (h.2 j x hx)⟩
theorem set4 {w0 w : World} {base g : Nat} {a b c d : Value} {t : TypeId} (hB : Below base w0 w) (hg : base ≤ g) (h : w.heap[g]? = some (.cells #[a, b, c, d] t (0, 0))) (x y z u : Value) :
    Below base w0 ((((w.setCell ⟨g, 0, none⟩ x).setCell ⟨g, 1, none⟩ y).setCell ⟨g, 2, none⟩ z).setCell ⟨g, 3, none⟩ u) ∧ ((((w.setCell ⟨g, 0, none⟩ x).setCell ⟨g, 1, none⟩ y).setCell ⟨g, 2, none⟩ z).setCell ⟨g, 3, none⟩ u).heap[g]? = some (.cells #[x, y, z, u] t (0, 0)) :=
  ⟨(((hB.setCell hg _).setCell hg _).setCell hg _).setCell hg _, blk_set (blk_set (blk_set (blk_set h _) _) _) _⟩

set_option maxHeartbeats 4000000 in
theorem read_any (text : ByteArray) (hs : text.size ≤ 1000000) (w : World) (hG : Gl w) (hw : gLow ≤ w.heap.size) :
    Calls Tryz.prog 24 #[.string text] w fun e w' => ∃ v, e = .returned (.tuple #[v, .int .i64 (rdOut text).2.1, .int .i64 (rdOut text).2.2]) ∧ Below w.heap.size w w' ∧ PdVal v (rdOut text).1 w' := by
  have HO : Hid (rdOut text = if 200000 < text.size then (pd0, 0, 2) else match rdScan text with | .error i => (pd0, (i : Int), 9) | .ok st => if text.size = 0 then (pd0, 0, 9) else if prodErr st.key st.w st.h st.pls = 0 then (st, 0, 0) else (pd0, 0, prodErr st.key st.w st.h st.pls)) := rfl
  have CS := Lib.hid (fun (W : World) (hW : Below w.heap.size w W) (hcb : w.heap.size + 1 < W.heap.size) (hp : W.heap[w.heap.size + 1]? = some (.cells #[.string ⟨#[]⟩, .int .i64 0, .int .i64 0, .slice none 0 0] 44 (0, 0))) =>
    scan_any 88 (enters_of Tryz.func88 (by kernel_rfl) rfl) (w.heap.size + 1) (w.heap.size + 1) takeP (PdAt (w.heap.size + 1)) (fun _ _ _ _ h hb => h.below hb) (read1_takes _ _ (Nat.le_refl _)) text (by omega) pd0 W (hG.below hW hw) (by omega) (by omega) ⟨_, hp, World.ownsRow_nil _ _ _ _, Nat.le_refl _⟩)
  rw [show scanT (stepW takeP) text.size 0 pd0 text = rdScan text from rfl] at CS
  generalize rdOut text = out at *
  go_enter Tryz.func24, Tryz.ntmps24
  go_upto_region 2 with (fail)
  have HB0 : Hid (Below w.heap.size w ((w.alloc (.cells #[.string ⟨#[]⟩, .int .i64 0, .int .i64 0, .slice none 0 0] 44)).alloc (.cells #[.string ⟨#[]⟩, .int .i64 0, .int .i64 0, .slice none 0 0] 44))) := ((Below.refl _ _).alloc (Nat.le_refl _) _).alloc (by simp) _
  have HR0 : Hid (((w.alloc (.cells #[.string ⟨#[]⟩, .int .i64 0, .int .i64 0, .slice none 0 0] 44)).alloc (.cells #[.string ⟨#[]⟩, .int .i64 0, .int .i64 0, .slice none 0 0] 44)).heap[w.heap.size]? = some (.cells #[.string ⟨#[]⟩, .int .i64 0, .int .i64 0, .slice none 0 0] 44 (0, 0))) := blk_alloc (blk_new w _ rfl) _
  have HP0 : Hid (((w.alloc (.cells #[.string ⟨#[]⟩, .int .i64 0, .int .i64 0, .slice none 0 0] 44)).alloc (.cells #[.string ⟨#[]⟩, .int .i64 0, .int .i64 0, .slice none 0 0] 44)).heap[w.heap.size + 1]? = some (.cells #[.string ⟨#[]⟩, .int .i64 0, .int .i64 0, .slice none 0 0] 44 (0, 0))) := blk_new _ _ (by simp)
  have hz0 : w.heap.size + 1 < ((w.alloc (.cells #[.string ⟨#[]⟩, .int .i64 0, .int .i64 0, .slice none 0 0] 44)).alloc (.cells #[.string ⟨#[]⟩, .int .i64 0, .int .i64 0, .slice none 0 0] 44)).heap.size := by simp
  generalize (w.alloc (.cells #[.string ⟨#[]⟩, .int .i64 0, .int .i64 0, .slice none 0 0] 44)).alloc (.cells #[.string ⟨#[]⟩, .int .i64 0, .int .i64 0, .slice none 0 0] 44) = wx at *
  have CX := Lib.hid (CS.out wx HB0.out hz0 HP0.out)
  clear CS
  go_wp2_with fail
  refine CX.out.mono ?_
  rintro e w1 ⟨rfl, b1, hok⟩
  have H1 : Hid (Below w.heap.size w w1 ∧ w1.heap[w.heap.size]? = some (.cells #[.string ⟨#[]⟩, .int .i64 0, .int .i64 0, .slice none 0 0] 44 (0, 0))) :=
    ⟨HB0.out.trans (b1.mono (by omega)), (b1.block _ (by omega)).trans HR0.out⟩
  have HOK := Lib.hid hok
  clear b1 hok CX HB0 HR0 HP0
  obtain ⟨r0, r1, r2, r3⟩ := blk4 H1.out.2
  have f0 := frozen_of_blk H1.out.2 0
  have f1 := frozen_of_blk H1.out.2 1
  have f2 := frozen_of_blk H1.out.2 2
  have f3 := frozen_of_blk H1.out.2 3
  have hrl := lt_of_blk H1.out.2
  by_cases hlong : 200000 < text.size
  · have HX : Hid (out = (pd0, 0, 2)) := HO.out.trans (if_pos hlong)
    simp only [if_pos hlong]
    clear HOK HO
    go_wp2_with fail
    have HF := Lib.hid (set4 H1.out.1 (Nat.le_refl _) H1.out.2 (.string ⟨#[]⟩) (.int .i64 0) (.int .i64 0) (.slice none 0 0))
    generalize (((w1.setCell ⟨w.heap.size, 0, none⟩ (.string ⟨#[]⟩)).setCell ⟨w.heap.size, 1, none⟩ (.int .i64 0)).setCell ⟨w.heap.size, 2, none⟩ (.int .i64 0)).setCell ⟨w.heap.size, 3, none⟩ (.slice none 0 0) = w2 at *
    clear r0 r1 r2 r3 f0 f1 f2 f3 hrl
    obtain ⟨r0, r1, r2, r3⟩ := blk4 HF.out.2
    refine bodyPost_ret (v := .tuple #[.agg #[.string ⟨#[]⟩, .int .i64 0, .int .i64 0, .slice none 0 0], .int .i64 0, .int .i64 2]) (by unfold results; simp only [Tryz.results24]; go_simp) rfl ⟨_, by rw [HX.out], HF.out.1, by rw [HX.out]; exact pd0_val _⟩
  simp only [if_neg hlong]
  cases hR : rdScan text with
  | error i =>
    have HX : Hid (out = (pd0, (i : Int), 9)) := by
      refine HO.out.trans ?_
      rw [if_neg hlong, hR]
    simp only [lineOf, errOf]
    clear HOK HO hR
    go_wp2_with fail
    have HF := Lib.hid (set4 H1.out.1 (Nat.le_refl _) H1.out.2 (.string ⟨#[]⟩) (.int .i64 0) (.int .i64 0) (.slice none 0 0))
    generalize (((w1.setCell ⟨w.heap.size, 0, none⟩ (.string ⟨#[]⟩)).setCell ⟨w.heap.size, 1, none⟩ (.int .i64 0)).setCell ⟨w.heap.size, 2, none⟩ (.int .i64 0)).setCell ⟨w.heap.size, 3, none⟩ (.slice none 0 0) = w2 at *
    clear r0 r1 r2 r3 f0 f1 f2 f3 hrl
    obtain ⟨r0, r1, r2, r3⟩ := blk4 HF.out.2
    refine bodyPost_ret (v := .tuple #[.agg #[.string ⟨#[]⟩, .int .i64 0, .int .i64 0, .slice none 0 0], .int .i64 i, .int .i64 9]) (by unfold results; simp only [Tryz.results24]; go_simp) rfl ⟨_, by rw [HX.out], HF.out.1, by rw [HX.out]; exact pd0_val _⟩
  | ok st =>
    obtain ⟨nn, hpd, hns, hnn⟩ := HOK.out (by omega) st hR
    obtain ⟨vs, hp, hown, hpl⟩ := hpd
    obtain ⟨Av, cv, rfl, hpa, hcv⟩ := pl_own2 hown
    have HBL : Hid (∀ ga : Nat, Av = some ⟨ga, 0, none⟩ → w.heap.size + 2 ≤ ga) := fun ga e => by
      have := own_row hown ga (by rw [e]; rfl)
      omega
    have HX0 : Hid (out = if text.size = 0 then (pd0, 0, 9) else if prodErr st.key st.w st.h st.pls = 0 then (st, 0, 0) else (pd0, 0, prodErr st.key st.w st.h st.pls)) := by
      refine HO.out.trans ?_
      rw [if_neg hlong, hR]
    have HP := Lib.hid (And.intro hp hpa)
    obtain ⟨p0, p1, p2, p3⟩ := blk4 hp
    have hpl2 := lt_of_blk hp
    simp only [lineOf, errOf]
    clear HOK HO hR hp hown hpa hnn
    cases hE : text.toList.isEmpty
    rotate_left
    · have h0 : text.size = 0 := by
        rw [Lib.toList_data] at hE
        have := List.isEmpty_iff.mp hE
        show text.data.toList.length = 0
        rw [this]; rfl
      have HX : Hid (out = (pd0, 0, 9)) := HX0.out.trans (if_pos h0)
      clear HX0 h0
      go_wp2_with fail
      have HF := Lib.hid (set4 H1.out.1 (Nat.le_refl _) H1.out.2 (.string ⟨#[]⟩) (.int .i64 0) (.int .i64 0) (.slice none 0 0))
      generalize (((w1.setCell ⟨w.heap.size, 0, none⟩ (.string ⟨#[]⟩)).setCell ⟨w.heap.size, 1, none⟩ (.int .i64 0)).setCell ⟨w.heap.size, 2, none⟩ (.int .i64 0)).setCell ⟨w.heap.size, 3, none⟩ (.slice none 0 0) = w2 at *
      clear r0 r1 r2 r3 f0 f1 f2 f3 hrl
      obtain ⟨r0, r1, r2, r3⟩ := blk4 HF.out.2
      refine bodyPost_ret (v := .tuple #[.agg #[.string ⟨#[]⟩, .int .i64 0, .int .i64 0, .slice none 0 0], .int .i64 0, .int .i64 9]) (by unfold results; simp only [Tryz.results24]; go_simp) rfl ⟨_, by rw [HX.out], HF.out.1, by rw [HX.out]; exact pd0_val _⟩
    · have h0 : ¬ text.size = 0 := fun h => by
        rw [Lib.toList_data] at hE
        have : text.data.toList = [] := List.length_eq_zero_iff.mp h
        rw [this] at hE
        cases hE
      have HX1 := Lib.hid (HX0.out.trans (if_neg h0))
      have CC := Lib.hid (checkProduct_any st.key st.w st.h Av cv st.pls (by omega) w1 HP.out.2)
      clear HX0 h0
      generalize prodErr st.key st.w st.h st.pls = E at *
      by_cases hE0 : E = 0
      · have HX := Lib.hid (HX1.out.trans (if_pos hE0))
        subst hE0
        go_wp2_with fail
        refine CC.out.mono ?_
        rintro e w2 ⟨rfl, b2⟩
        have H2 : Hid (Below w.heap.size w w2 ∧ w2.heap[w.heap.size]? = some (.cells #[.string ⟨#[]⟩, .int .i64 0, .int .i64 0, .slice none 0 0] 44 (0, 0)) ∧ w2.heap[w.heap.size + 1]? = some (.cells #[.string st.key, .int .i64 st.w, .int .i64 st.h, .slice Av st.pls.length cv] 44 (0, 0)) ∧ PlAt w2 Av st.pls) :=
          ⟨H1.out.1.then_below b2 H1.out.1.size, blk_below b2 H1.out.2, blk_below b2 HP.out.1, HP.out.2.below b2⟩
        clear b2 CC HX1 HP p0 p1 p2 p3 r0 r1 r2 r3 f0 f1 f2 f3 hrl hpl2
        obtain ⟨p0, p1, p2, p3⟩ := blk4 H2.out.2.2.1
        have hpl2 := lt_of_blk H2.out.2.2.1
        obtain ⟨r0, r1, r2, r3⟩ := blk4 H2.out.2.1
        have f0 := frozen_of_blk H2.out.2.1 0
        have f1 := frozen_of_blk H2.out.2.1 1
        have f2 := frozen_of_blk H2.out.2.1 2
        have f3 := frozen_of_blk H2.out.2.1 3
        have hrl := lt_of_blk H2.out.2.1
        go_wp2_with fail
        have HF := Lib.hid (set4 H2.out.1 (Nat.le_refl _) H2.out.2.1 (.string st.key) (.int .i64 st.w) (.int .i64 st.h) (.slice Av st.pls.length cv))
        have HV : Hid (PdVal (.agg #[.string st.key, .int .i64 st.w, .int .i64 st.h, .slice Av st.pls.length cv]) st ((((w2.setCell ⟨w.heap.size, 0, none⟩ (.string st.key)).setCell ⟨w.heap.size, 1, none⟩ (.int .i64 st.w)).setCell ⟨w.heap.size, 2, none⟩ (.int .i64 st.h)).setCell ⟨w.heap.size, 3, none⟩ (.slice Av st.pls.length cv))) := by
          refine ⟨Av, cv, rfl, ?_, hcv⟩
          rcases H2.out.2.2.2 with h | ⟨ga, e, hl⟩
          · exact .inl h
          · by_cases hn : st.pls = []
            · exact .inl hn
            · have hga := HBL.out ga e
              have hne : ga ≠ w.heap.size := by omega
              exact .inr ⟨ga, e, line_far (line_far (line_far (line_far hl hne _) hne _) hne _) hne _⟩
        generalize (((w2.setCell ⟨w.heap.size, 0, none⟩ (.string st.key)).setCell ⟨w.heap.size, 1, none⟩ (.int .i64 st.w)).setCell ⟨w.heap.size, 2, none⟩ (.int .i64 st.h)).setCell ⟨w.heap.size, 3, none⟩ (.slice Av st.pls.length cv) = w3 at *
        clear p0 p1 p2 p3 r0 r1 r2 r3 f0 f1 f2 f3 hrl hpl2
        obtain ⟨r0, r1, r2, r3⟩ := blk4 HF.out.2
        refine bodyPost_ret (v := .tuple #[.agg #[.string st.key, .int .i64 st.w, .int .i64 st.h, .slice Av st.pls.length cv], .int .i64 0, .int .i64 0]) (by unfold results; simp only [Tryz.results24]; go_simp) rfl ⟨_, by rw [HX.out], HF.out.1, by rw [HX.out]; exact HV.out⟩
      · have HX := Lib.hid (HX1.out.trans (if_neg hE0))
        have hne1 : (E == 0) = false := by simpa using hE0
        have hne2 : (E != 0) = true := by simpa using hE0
        go_wp2_with fail
        refine CC.out.mono ?_
        rintro e w2 ⟨rfl, b2⟩
        have H2 : Hid (Below w.heap.size w w2 ∧ w2.heap[w.heap.size]? = some (.cells #[.string ⟨#[]⟩, .int .i64 0, .int .i64 0, .slice none 0 0] 44 (0, 0)) ∧ w2.heap[w.heap.size + 1]? = some (.cells #[.string st.key, .int .i64 st.w, .int .i64 st.h, .slice Av st.pls.length cv] 44 (0, 0)) ∧ PlAt w2 Av st.pls) :=
          ⟨H1.out.1.then_below b2 H1.out.1.size, blk_below b2 H1.out.2, blk_below b2 HP.out.1, HP.out.2.below b2⟩
        clear b2 CC HX1 HP p0 p1 p2 p3 r0 r1 r2 r3 f0 f1 f2 f3 hrl hpl2
        obtain ⟨p0, p1, p2, p3⟩ := blk4 H2.out.2.2.1
        have hpl2 := lt_of_blk H2.out.2.2.1
        obtain ⟨r0, r1, r2, r3⟩ := blk4 H2.out.2.1
        have f0 := frozen_of_blk H2.out.2.1 0
        have f1 := frozen_of_blk H2.out.2.1 1
        have f2 := frozen_of_blk H2.out.2.1 2
        have f3 := frozen_of_blk H2.out.2.1 3
        have hrl := lt_of_blk H2.out.2.1
        go_wp2_with fail
        have HF := Lib.hid (set4 H2.out.1 (Nat.le_refl _) H2.out.2.1 (.string ⟨#[]⟩) (.int .i64 0) (.int .i64 0) (.slice none 0 0))
        generalize (((w2.setCell ⟨w.heap.size, 0, none⟩ (.string ⟨#[]⟩)).setCell ⟨w.heap.size, 1, none⟩ (.int .i64 0)).setCell ⟨w.heap.size, 2, none⟩ (.int .i64 0)).setCell ⟨w.heap.size, 3, none⟩ (.slice none 0 0) = w3 at *
        clear r0 r1 r2 r3 f0 f1 f2 f3 hrl
        obtain ⟨r0, r1, r2, r3⟩ := blk4 HF.out.2
        refine bodyPost_ret (v := .tuple #[.agg #[.string ⟨#[]⟩, .int .i64 0, .int .i64 0, .slice none 0 0], .int .i64 0, .int .i64 E]) (by unfold results; simp only [Tryz.results24]; go_simp) rfl ⟨_, by rw [HX.out], HF.out.1, by rw [HX.out]; exact pd0_val _⟩
end Go.Proofs.YtalconjnjaffkaaGreatDoor
