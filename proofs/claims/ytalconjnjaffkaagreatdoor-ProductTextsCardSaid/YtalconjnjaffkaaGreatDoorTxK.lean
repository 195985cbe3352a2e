/-
  The reference reads a product.
-/
import Derived.Test.YtalconjnjaffkaaGreatDoorTxJ
import Derived.Test.YtalconjnjaffkaaGreatDoorRefPs
namespace Go.Proofs.YtalconjnjaffkaaGreatDoor
open Go.RowKit
set_option linter.unusedSimpArgs false
set_option linter.unusedVariables false

set_option maxHeartbeats 4000000 in
theorem prodRead_any (text : ByteArray) (hs : text.size ≤ 1000000) (w : World) (hG : Gl w) (hw : gLow ≤ w.heap.size) :
    Calls Tryz.prog 25 #[.string text] w fun e w' => ∃ v, e = .returned (.tuple #[v, .int .i64 (rdOut text).2.1, .int .i64 (rdOut text).2.2]) ∧ Below w.heap.size w w' ∧ PdVal v (rdOut text).1 w' := by
  have HO : Hid (rdOut text = if 200000 < text.size then (pd0, 0, 2) else match rdScan text with | .error i => (pd0, (i : Int), 9) | .ok st => if text.size = 0 then (pd0, 0, 9) else if prodErr st.key st.w st.h st.pls = 0 then (st, 0, 0) else (pd0, 0, prodErr st.key st.w st.h st.pls)) := rfl
  have CS := Lib.hid (fun (hlen : text.size ≤ 200000) (W : World) (hW : Below w.heap.size w W) (hz : w.heap.size + 2 < W.heap.size) (hp : W.heap[w.heap.size + 1]? = some (.cells #[.string ⟨#[]⟩, .int .i64 0, .int .i64 0, .slice none 0 0] 44 (0, 0))) (hl : W.heap[w.heap.size + 2]? = some (.cells #[.int .i64 0] 3 (0, 0))) =>
    linesQ2_any 92 (enters_of Tryz.func92 (by kernel_rfl) rfl) (w.heap.size + 2) (w.heap.size + 1) (w.heap.size + 1) (stepW takeP) (fun i st w' => PdQ (w.heap.size + 2) (w.heap.size + 1) i st w' ∧ Gl w') (fun _ _ _ _ h hb => ⟨h.1.below hb, h.2.below hb (by obtain ⟨h0, _⟩ := h.1; have := lt_of_blk h0; omega)⟩) (readQ_takes _ _ _ (Nat.le_refl _) (by omega)) text hlen pd0 W (hG.below hW hw) (by omega) (by omega) ⟨⟨hl, rfl, _, hp, World.ownsRow_nil _ _ _ _, Nat.le_refl _⟩, hG.below hW hw⟩)
  rw [show scanT (stepW takeP) text.size 0 pd0 text = rdScan text from rfl] at CS
  generalize rdOut text = out at *
  by_cases hlong : 200000 < text.size
  · have HX : Hid (out = (pd0, 0, 2)) := HO.out.trans (if_pos hlong)
    clear HO CS
    have hl2 : (200000 : Int) < (text.size : Int) := by omega
    go_enter Tryz.func25, Tryz.ntmps25
    go_wp2_with fail
    have H1 : Hid (Below w.heap.size w (w.alloc (.cells #[.string ⟨#[]⟩, .int .i64 0, .int .i64 0, .slice none 0 0] 44)) ∧ (w.alloc (.cells #[.string ⟨#[]⟩, .int .i64 0, .int .i64 0, .slice none 0 0] 44)).heap[w.heap.size]? = some (.cells #[.string ⟨#[]⟩, .int .i64 0, .int .i64 0, .slice none 0 0] 44 (0, 0))) := ⟨(Below.refl _ _).alloc (Nat.le_refl _) _, blk_new w _ rfl⟩
    generalize (w.alloc (.cells #[.string ⟨#[]⟩, .int .i64 0, .int .i64 0, .slice none 0 0] 44)) = w3 at *
    obtain ⟨r0, r1, r2, r3⟩ := blk4 H1.out.2
    refine bodyPost_ret (v := .tuple #[.agg #[.string ⟨#[]⟩, .int .i64 0, .int .i64 0, .slice none 0 0], .int .i64 0, .int .i64 2]) (by unfold results; simp only [Tryz.results25]; go_simp) rfl ⟨_, by rw [HX.out], H1.out.1, by rw [HX.out]; exact pd0_val _⟩
  have hlen : text.size ≤ 200000 := by omega
  have hl2 : ¬ (200000 : Int) < (text.size : Int) := by omega
  have HO2 : Hid (out = match rdScan text with | .error i => (pd0, (i : Int), 9) | .ok st => if text.size = 0 then (pd0, 0, 9) else if prodErr st.key st.w st.h st.pls = 0 then (st, 0, 0) else (pd0, 0, prodErr st.key st.w st.h st.pls)) := HO.out.trans (if_neg hlong)
  clear HO hlong
  go_enter Tryz.func25, Tryz.ntmps25
  go_upto_region 5 with (fail)
  have HB0 : Hid (Below w.heap.size w (((w.alloc (.cells #[.string ⟨#[]⟩, .int .i64 0, .int .i64 0, .slice none 0 0] 44)).alloc (.cells #[.string ⟨#[]⟩, .int .i64 0, .int .i64 0, .slice none 0 0] 44)).alloc (.cells #[.int .i64 0] 3))) := (((Below.refl _ _).alloc (Nat.le_refl _) _).alloc (by simp) _).alloc (by simp; omega) _
  have HR0 : Hid ((((w.alloc (.cells #[.string ⟨#[]⟩, .int .i64 0, .int .i64 0, .slice none 0 0] 44)).alloc (.cells #[.string ⟨#[]⟩, .int .i64 0, .int .i64 0, .slice none 0 0] 44)).alloc (.cells #[.int .i64 0] 3)).heap[w.heap.size]? = some (.cells #[.string ⟨#[]⟩, .int .i64 0, .int .i64 0, .slice none 0 0] 44 (0, 0))) := blk_alloc (blk_alloc (blk_new w _ rfl) _) _
  have HP0 : Hid ((((w.alloc (.cells #[.string ⟨#[]⟩, .int .i64 0, .int .i64 0, .slice none 0 0] 44)).alloc (.cells #[.string ⟨#[]⟩, .int .i64 0, .int .i64 0, .slice none 0 0] 44)).alloc (.cells #[.int .i64 0] 3)).heap[w.heap.size + 1]? = some (.cells #[.string ⟨#[]⟩, .int .i64 0, .int .i64 0, .slice none 0 0] 44 (0, 0))) := blk_alloc (blk_new _ _ (by simp)) _
  have HL0 : Hid ((((w.alloc (.cells #[.string ⟨#[]⟩, .int .i64 0, .int .i64 0, .slice none 0 0] 44)).alloc (.cells #[.string ⟨#[]⟩, .int .i64 0, .int .i64 0, .slice none 0 0] 44)).alloc (.cells #[.int .i64 0] 3)).heap[w.heap.size + 2]? = some (.cells #[.int .i64 0] 3 (0, 0))) := blk_new _ _ (by simp)
  have hz0 : w.heap.size + 2 < (((w.alloc (.cells #[.string ⟨#[]⟩, .int .i64 0, .int .i64 0, .slice none 0 0] 44)).alloc (.cells #[.string ⟨#[]⟩, .int .i64 0, .int .i64 0, .slice none 0 0] 44)).alloc (.cells #[.int .i64 0] 3)).heap.size := by simp
  have e12 : w.heap.size + 1 + 1 = w.heap.size + 2 := rfl
  simp only [e12]
  generalize (((w.alloc (.cells #[.string ⟨#[]⟩, .int .i64 0, .int .i64 0, .slice none 0 0] 44)).alloc (.cells #[.string ⟨#[]⟩, .int .i64 0, .int .i64 0, .slice none 0 0] 44)).alloc (.cells #[.int .i64 0] 3)) = wx at *
  have CX := Lib.hid (CS.out hlen wx HB0.out hz0 HP0.out HL0.out)
  clear CS e12
  go_wp2_with fail
  refine CX.out.mono ?_
  rintro e w1 ⟨rfl, b1, hok⟩
  have H1 : Hid (Below w.heap.size w w1 ∧ w1.heap[w.heap.size]? = some (.cells #[.string ⟨#[]⟩, .int .i64 0, .int .i64 0, .slice none 0 0] 44 (0, 0))) :=
    ⟨HB0.out.trans (b1.mono (by omega)), (b1.block _ (by omega)).trans HR0.out⟩
  have HOK := Lib.hid hok
  clear b1 hok CX HB0 HR0 HP0 HL0
  obtain ⟨r0, r1, r2, r3⟩ := blk4 H1.out.2
  have f0 := frozen_of_blk H1.out.2 0
  have f1 := frozen_of_blk H1.out.2 1
  have f2 := frozen_of_blk H1.out.2 2
  have f3 := frozen_of_blk H1.out.2 3
  have hrl := lt_of_blk H1.out.2
  cases hR : rdScan text with
  | error i =>
    have HX : Hid (out = (pd0, (i : Int), 9)) := by
      refine HO2.out.trans ?_
      rw [hR]
    simp only [lineOf, isOk]
    clear HOK HO2 hR
    go_wp2_with fail
    have HF := Lib.hid (set4 H1.out.1 (Nat.le_refl _) H1.out.2 (.string ⟨#[]⟩) (.int .i64 0) (.int .i64 0) (.slice none 0 0))
    generalize (((w1.setCell ⟨w.heap.size, 0, none⟩ (.string ⟨#[]⟩)).setCell ⟨w.heap.size, 1, none⟩ (.int .i64 0)).setCell ⟨w.heap.size, 2, none⟩ (.int .i64 0)).setCell ⟨w.heap.size, 3, none⟩ (.slice none 0 0) = w3 at *
    clear r0 r1 r2 r3 f0 f1 f2 f3 hrl
    obtain ⟨r0, r1, r2, r3⟩ := blk4 HF.out.2
    refine bodyPost_ret (v := .tuple #[.agg #[.string ⟨#[]⟩, .int .i64 0, .int .i64 0, .slice none 0 0], .int .i64 i, .int .i64 9]) (by unfold results; simp only [Tryz.results25]; go_simp) rfl ⟨_, by rw [HX.out], HF.out.1, by rw [HX.out]; exact pd0_val _⟩
  | ok st =>
    have HX0 : Hid (out = if text.size = 0 then (pd0, 0, 9) else if prodErr st.key st.w st.h st.pls = 0 then (st, 0, 0) else (pd0, 0, prodErr st.key st.w st.h st.pls)) := by
      refine HO2.out.trans ?_
      rw [hR]
    obtain ⟨nn, ⟨hpd, hgl⟩, hns, hnn⟩ := HOK.out st hR
    obtain ⟨hln, _, vs, hp, hown, hpl⟩ := hpd
    obtain ⟨Av, cv, rfl, hpa, hcv⟩ := pl_own2 hown
    have HBL : Hid (∀ ga : Nat, Av = some ⟨ga, 0, none⟩ → w.heap.size + 2 ≤ ga) := fun ga e => by
      have := own_row hown ga (by rw [e]; rfl)
      omega
    have HP := Lib.hid (And.intro hp hpa)
    have k0 := blk_cell0 hln
    obtain ⟨p0, p1, p2, p3⟩ := blk4 hp
    have hpl2 := lt_of_blk hp
    have hll2 := lt_of_blk hln
    simp only [lineOf, isOk]
    by_cases h0 : text.size = 0
    · have HX : Hid (out = (pd0, 0, 9)) := HX0.out.trans (if_pos h0)
      obtain rfl : nn = 0 := hnn.mpr h0
      clear HX0 HOK HO2 hR hp hown hpa hnn hln hgl h0 hl2
      go_wp2_with fail
      have HF := Lib.hid (set4 H1.out.1 (Nat.le_refl _) H1.out.2 (.string ⟨#[]⟩) (.int .i64 0) (.int .i64 0) (.slice none 0 0))
      generalize (((w1.setCell ⟨w.heap.size, 0, none⟩ (.string ⟨#[]⟩)).setCell ⟨w.heap.size, 1, none⟩ (.int .i64 0)).setCell ⟨w.heap.size, 2, none⟩ (.int .i64 0)).setCell ⟨w.heap.size, 3, none⟩ (.slice none 0 0) = w3 at *
      clear r0 r1 r2 r3 f0 f1 f2 f3 hrl
      obtain ⟨r0, r1, r2, r3⟩ := blk4 HF.out.2
      refine bodyPost_ret (v := .tuple #[.agg #[.string ⟨#[]⟩, .int .i64 0, .int .i64 0, .slice none 0 0], .int .i64 0, .int .i64 9]) (by unfold results; simp only [Tryz.results25]; go_simp) rfl ⟨_, by rw [HX.out], HF.out.1, by rw [HX.out]; exact pd0_val _⟩
    · have HX1 := Lib.hid (HX0.out.trans (if_neg h0))
      have hn0 : ((nn : Int) == 0) = false := beq_eq_false_iff_ne.mpr (by have : nn ≠ 0 := fun h => h0 (hnn.mp h); omega)
      have CC := Lib.hid (productFault_any st.key st.w st.h Av cv st.pls (by omega) w1 HP.out.2)
      clear HX0 HOK HO2 hR hp hown hpa hnn hln hgl h0 hl2
      generalize prodErr st.key st.w st.h st.pls = E at *
      by_cases hE0 : E = 0
      · have HX := Lib.hid (HX1.out.trans (if_pos hE0))
        subst hE0
        go_wp2_with fail
        refine CC.out.mono ?_
        rintro e w2 ⟨rfl, b2⟩
        have H2 : Hid (Below w.heap.size w w2 ∧ w2.heap[w.heap.size]? = some (.cells #[.string ⟨#[]⟩, .int .i64 0, .int .i64 0, .slice none 0 0] 44 (0, 0)) ∧ w2.heap[w.heap.size + 1]? = some (.cells #[.string st.key, .int .i64 st.w, .int .i64 st.h, .slice Av st.pls.length cv] 44 (0, 0)) ∧ PlAt w2 Av st.pls) :=
          ⟨H1.out.1.then_below b2 H1.out.1.size, blk_below b2 H1.out.2, blk_below b2 HP.out.1, HP.out.2.below b2⟩
        clear b2 CC HX1 HP p0 p1 p2 p3 r0 r1 r2 r3 f0 f1 f2 f3 hrl hpl2 k0 hll2
        obtain ⟨p0, p1, p2, p3⟩ := blk4 H2.out.2.2.1
        have hpl2 := lt_of_blk H2.out.2.2.1
        obtain ⟨r0, r1, r2, r3⟩ := blk4 H2.out.2.1
        have f0 := frozen_of_blk H2.out.2.1 0
        have f1 := frozen_of_blk H2.out.2.1 1
        have f2 := frozen_of_blk H2.out.2.1 2
        have f3 := frozen_of_blk H2.out.2.1 3
        have hrl := lt_of_blk H2.out.2.1
        go_wp2_with fail
        have HF := Lib.hid (set4 H2.out.1 (Nat.le_refl _) H2.out.2.1 (.string st.key) (.int .i64 st.w) (.int .i64 st.h) (.slice Av st.pls.length cv))
        have HV : Hid (PdVal (.agg #[.string st.key, .int .i64 st.w, .int .i64 st.h, .slice Av st.pls.length cv]) st ((((w2.setCell ⟨w.heap.size, 0, none⟩ (.string st.key)).setCell ⟨w.heap.size, 1, none⟩ (.int .i64 st.w)).setCell ⟨w.heap.size, 2, none⟩ (.int .i64 st.h)).setCell ⟨w.heap.size, 3, none⟩ (.slice Av st.pls.length cv))) := by
          refine ⟨Av, cv, rfl, ?_, hcv⟩
          rcases H2.out.2.2.2 with h | ⟨ga, e, hl⟩
          · exact .inl h
          · by_cases hn : st.pls = []
            · exact .inl hn
            · have hga := HBL.out ga e
              have hne : ga ≠ w.heap.size := by omega
              exact .inr ⟨ga, e, line_far (line_far (line_far (line_far hl hne _) hne _) hne _) hne _⟩
        generalize (((w2.setCell ⟨w.heap.size, 0, none⟩ (.string st.key)).setCell ⟨w.heap.size, 1, none⟩ (.int .i64 st.w)).setCell ⟨w.heap.size, 2, none⟩ (.int .i64 st.h)).setCell ⟨w.heap.size, 3, none⟩ (.slice Av st.pls.length cv) = w3 at *
        clear p0 p1 p2 p3 r0 r1 r2 r3 f0 f1 f2 f3 hrl hpl2
        obtain ⟨r0, r1, r2, r3⟩ := blk4 HF.out.2
        refine bodyPost_ret (v := .tuple #[.agg #[.string st.key, .int .i64 st.w, .int .i64 st.h, .slice Av st.pls.length cv], .int .i64 0, .int .i64 0]) (by unfold results; simp only [Tryz.results25]; go_simp) rfl ⟨_, by rw [HX.out], HF.out.1, by rw [HX.out]; exact HV.out⟩
      · have HX := Lib.hid (HX1.out.trans (if_neg hE0))
        have hne1 : (E == 0) = false := by simpa using hE0
        have hne2 : (E != 0) = true := by simpa using hE0
        go_wp2_with fail
        refine CC.out.mono ?_
        rintro e w2 ⟨rfl, b2⟩
        have H2 : Hid (Below w.heap.size w w2 ∧ w2.heap[w.heap.size]? = some (.cells #[.string ⟨#[]⟩, .int .i64 0, .int .i64 0, .slice none 0 0] 44 (0, 0))) :=
          ⟨H1.out.1.then_below b2 H1.out.1.size, blk_below b2 H1.out.2⟩
        clear b2 CC HX1 HP p0 p1 p2 p3 r0 r1 r2 r3 f0 f1 f2 f3 hrl hpl2 k0 hll2 H1
        obtain ⟨r0, r1, r2, r3⟩ := blk4 H2.out.2
        have f0 := frozen_of_blk H2.out.2 0
        have f1 := frozen_of_blk H2.out.2 1
        have f2 := frozen_of_blk H2.out.2 2
        have f3 := frozen_of_blk H2.out.2 3
        have hrl := lt_of_blk H2.out.2
        go_wp2_with fail
        have HF := Lib.hid (set4 H2.out.1 (Nat.le_refl _) H2.out.2 (.string ⟨#[]⟩) (.int .i64 0) (.int .i64 0) (.slice none 0 0))
        generalize (((w2.setCell ⟨w.heap.size, 0, none⟩ (.string ⟨#[]⟩)).setCell ⟨w.heap.size, 1, none⟩ (.int .i64 0)).setCell ⟨w.heap.size, 2, none⟩ (.int .i64 0)).setCell ⟨w.heap.size, 3, none⟩ (.slice none 0 0) = w3 at *
        clear r0 r1 r2 r3 f0 f1 f2 f3 hrl
        obtain ⟨r0, r1, r2, r3⟩ := blk4 HF.out.2
        refine bodyPost_ret (v := .tuple #[.agg #[.string ⟨#[]⟩, .int .i64 0, .int .i64 0, .slice none 0 0], .int .i64 0, .int .i64 E]) (by unfold results; simp only [Tryz.results25]; go_simp) rfl ⟨_, by rw [HX.out], HF.out.1, by rw [HX.out]; exact pd0_val _⟩
end Go.Proofs.YtalconjnjaffkaaGreatDoor
