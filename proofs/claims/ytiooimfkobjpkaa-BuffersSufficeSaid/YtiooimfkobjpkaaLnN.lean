/-
  The reference's search for buffers: the function around the recursion.
-/
import Derived.Test.YtiooimfkobjpkaaLnJ
namespace Go.Proofs.Ytiooimfkobjpkaa
open Go.RowKit
set_option linter.unusedSimpArgs false
set_option linter.unusedVariables false

theorem repeatA_any (x : Int) (gx c : Nat) (h2 : c ≤ 1000) {w : World} (hx : w.heap[gx]? = some (.cells #[.int .i64 x] 3 (0, 0))) :
    Calls Try.prog 67 #[.slice (some ⟨gx, 0, none⟩) 1 1, .int .i64 c] w fun e w' => ∃ g : Nat, e = .returned (.slice (some ⟨g, 0, none⟩) c c) ∧ Below w.heap.size w w' ∧ ReadsF w.heap.size encN (.slice (some ⟨g, 0, none⟩) c c) (List.replicate c x) w' := by
  rcases Nat.eq_zero_or_pos c with h0 | h0
  · subst h0
    refine (repeat0_any x gx hx).mono ?_
    rintro e w' ⟨g, rfl, hb, _⟩
    exact ⟨g, rfl, hb, some ⟨g, 0, none⟩, 0, rfl, Nat.le_refl _, .inl rfl⟩
  · refine (repeatN_any x gx c h0 h2 hx).mono ?_
    rintro e w' ⟨g, rfl, hb, hg, hk⟩
    refine ⟨g, rfl, hb, readsF_ints (l := List.replicate c x) (by simp) hg (t := 3) ?_⟩
    rw [← rpL_full]
    exact hk

set_option maxRecDepth 100000 in
set_option maxHeartbeats 8000000 in
theorem enoughOf_any (cs : List Int) (m n most : Nat) (hcs : CsOk cs) (h1 : 1 ≤ cs.length) (h6 : cs.length ≤ 6) (hn : n + 1 = cs.length) (hm1 : 1 ≤ m) (hm : m ≤ 2000) (hmost : most ≤ 3) {v1 : Value} {w : World} (r1 : Reads encN v1 cs w) :
    Calls Try.prog 35 #[v1, .int .i64 m, .int .i64 most] w fun e w' => ∃ v, e = .returned v ∧ Reads encN v (List.replicate n 0) w' ∧ Below w.heap.size w w' := by
  have HEN := enters_of Try.func66 (by kernel_rfl) rfl
  have HEN2 := enters_of Try.func68 (by kernel_rfl) rfl
  obtain ⟨A1, c1, rfl, r1'⟩ := r1
  have HR : Hid (Reads encN (.slice A1 cs.length c1) cs w) := ⟨A1, c1, rfl, r1'⟩
  have CT := Lib.hid (fun g1 g2 g3 g4 g5 g6 hc hbd B W h1' h2 h3 h4 h5 h6' => try_any cs m n most hcs h1 h6 hn hm1 hm hmost (.slice A1 cs.length c1) g1 g2 g3 g4 g5 g6 hc hbd n [] none 0 B W h1' h2 h3 h4 h5 h6')
  have hb1 : ((List.replicate n (most : Int)).length : Int) = (cs.length : Int) - 1 := by simp; omega
  have CE := Lib.hid (fun (hc hbd : Nat) (vl : Value) (W : World) (r1 : Reads encN (.slice A1 cs.length c1) cs W) (r2 : Reads encN vl (List.replicate n (most : Int)) W) kc kb => @end_any cs (List.replicate n (most : Int)) m hcs h1 h6 hb1 (fun x hx => by have := List.eq_of_mem_replicate hx; omega) hm1 hm hc hbd _ vl W r1 r2 kc kb)
  rw [lv_same (List.replicate n (most : Int)) (List.replicate n 0) hcs (by intro h; rw [h] at h1; simp at h1) (m - 1)] at CE
  generalize lv cs (List.replicate n 0) (m - 1) (cs.length - 1) = G at *
  have wk : IntKind.i64.wrap ((cs.length : Int) - 1) = (n : Int) := by rw [IntKind.wrap_i64]; omega
  have HN := Lib.hid (And.intro hn (And.intro h1 h6))
  have hn5 : n ≤ 5 := by omega
  clear hb1 hcs h1 h6 hn r1'
  go_enter Try.func35, Try.ntmps35
  go_upto_region 3 with (fail)
  have e2 : w.heap.size + 1 + 1 = w.heap.size + 2 := rfl
  have e3 : w.heap.size + 2 + 1 = w.heap.size + 3 := rfl
  have e4 : w.heap.size + 3 + 1 = w.heap.size + 4 := rfl
  simp only [e2, e3, e4]
  rw [show (Value.func (.func 66) #[] #[.pointer (some ⟨w.heap.size, 0, none⟩), .pointer (some ⟨w.heap.size + 1, 0, none⟩)]) = endF w.heap.size (w.heap.size + 1) from rfl]
  have HX : Hid (Below w.heap.size w (((((w.alloc (.cells #[.slice A1 cs.length c1] 22)).alloc (.cells #[.int .i64 m] 3)).alloc (.cells #[.int .i64 most] 3)).alloc (.cells #[endF w.heap.size (w.heap.size + 1)] 92)).alloc (.cells #[.int .i64 n] 3)) ∧ (((((w.alloc (.cells #[.slice A1 cs.length c1] 22)).alloc (.cells #[.int .i64 m] 3)).alloc (.cells #[.int .i64 most] 3)).alloc (.cells #[endF w.heap.size (w.heap.size + 1)] 92)).alloc (.cells #[.int .i64 n] 3)).heap[w.heap.size]? = some (.cells #[.slice A1 cs.length c1] 22 (0, 0)) ∧ (((((w.alloc (.cells #[.slice A1 cs.length c1] 22)).alloc (.cells #[.int .i64 m] 3)).alloc (.cells #[.int .i64 most] 3)).alloc (.cells #[endF w.heap.size (w.heap.size + 1)] 92)).alloc (.cells #[.int .i64 n] 3)).heap[w.heap.size + 1]? = some (.cells #[.int .i64 m] 3 (0, 0)) ∧ (((((w.alloc (.cells #[.slice A1 cs.length c1] 22)).alloc (.cells #[.int .i64 m] 3)).alloc (.cells #[.int .i64 most] 3)).alloc (.cells #[endF w.heap.size (w.heap.size + 1)] 92)).alloc (.cells #[.int .i64 n] 3)).heap[w.heap.size + 2]? = some (.cells #[.int .i64 most] 3 (0, 0)) ∧ (((((w.alloc (.cells #[.slice A1 cs.length c1] 22)).alloc (.cells #[.int .i64 m] 3)).alloc (.cells #[.int .i64 most] 3)).alloc (.cells #[endF w.heap.size (w.heap.size + 1)] 92)).alloc (.cells #[.int .i64 n] 3)).heap[w.heap.size + 3]? = some (.cells #[endF w.heap.size (w.heap.size + 1)] 92 (0, 0)) ∧ (((((w.alloc (.cells #[.slice A1 cs.length c1] 22)).alloc (.cells #[.int .i64 m] 3)).alloc (.cells #[.int .i64 most] 3)).alloc (.cells #[endF w.heap.size (w.heap.size + 1)] 92)).alloc (.cells #[.int .i64 n] 3)).heap[w.heap.size + 4]? = some (.cells #[.int .i64 n] 3 (0, 0))) := by
    refine ⟨((((((Below.refl _ _).alloc (Nat.le_refl _) _).alloc (by simp) _).alloc (by simp; omega) _).alloc (by simp; omega) _).alloc (by simp; omega) _), ?_, ?_, ?_, ?_, blk_new _ _ (by simp)⟩
    · exact blk_alloc (blk_alloc (blk_alloc (blk_alloc (blk_new w _ rfl) _) _) _) _
    · exact blk_alloc (blk_alloc (blk_alloc (blk_new _ _ (by simp)) _) _) _
    · exact blk_alloc (blk_alloc (blk_new _ _ (by simp)) _) _
    · exact blk_alloc (blk_new _ _ (by simp)) _
  generalize ((((w.alloc (.cells #[.slice A1 cs.length c1] 22)).alloc (.cells #[.int .i64 m] 3)).alloc (.cells #[.int .i64 most] 3)).alloc (.cells #[endF w.heap.size (w.heap.size + 1)] 92)).alloc (.cells #[.int .i64 n] 3) = w5 at *
  clear e2 e3 e4
  have hz5 := lt_of_blk HX.out.2.2.2.2.2
  obtain ⟨q2, _, l2⟩ := blk1 HX.out.2.2.2.1
  obtain ⟨q4, _, l4⟩ := blk1 HX.out.2.2.2.2.2
  have CR := Lib.hid (repeatA_any (most : Int) w5.heap.size n (by omega) (w := w5.alloc (.cells #[.int .i64 most] 3)) (blk_new w5 _ rfl))
  have hba : Below w5.heap.size w5 (w5.alloc (.cells #[.int .i64 most] 3)) := (Below.refl _ _).alloc (Nat.le_refl _) _
  have HBA := Lib.hid hba
  clear hba
  go_wp2_with fail
  refine CR.out.mono ?_
  rintro e w6 ⟨gR, rfl, b6, hr6⟩
  have B6 : Below w5.heap.size w5 w6 := HBA.out.then_below b6 HBA.out.size
  have HF : Hid (Below w.heap.size w w6 ∧ w6.heap[w.heap.size]? = some (.cells #[.slice A1 cs.length c1] 22 (0, 0)) ∧ w6.heap[w.heap.size + 1]? = some (.cells #[.int .i64 m] 3 (0, 0)) ∧ w6.heap[w.heap.size + 2]? = some (.cells #[.int .i64 most] 3 (0, 0)) ∧ w6.heap[w.heap.size + 3]? = some (.cells #[endF w.heap.size (w.heap.size + 1)] 92 (0, 0)) ∧ w6.heap[w.heap.size + 4]? = some (.cells #[.int .i64 n] 3 (0, 0)) ∧ Reads encN (.slice (some ⟨gR, 0, none⟩) n n) (List.replicate n (most : Int)) w6) :=
    ⟨HX.out.1.then_below B6 HX.out.1.size, blk_below B6 HX.out.2.1, blk_below B6 HX.out.2.2.1, blk_below B6 HX.out.2.2.2.1, blk_below B6 HX.out.2.2.2.2.1, blk_below B6 HX.out.2.2.2.2.2, hr6.reads⟩
  have hz6 : w.heap.size + 4 < w6.heap.size := Nat.lt_of_lt_of_le hz5 B6.size
  clear b6 hr6 B6 HBA CR HX q2 l2 q4 l4 hz5
  have ha : Below w6.heap.size w6 (w6.alloc (.cells #[.slice (some ⟨gR, 0, none⟩) n n] 22)) := (Below.refl _ _).alloc (Nat.le_refl _) _
  have H7 : Hid (Below w.heap.size w (w6.alloc (.cells #[.slice (some ⟨gR, 0, none⟩) n n] 22)) ∧ (w6.alloc (.cells #[.slice (some ⟨gR, 0, none⟩) n n] 22)).heap[w.heap.size]? = some (.cells #[.slice A1 cs.length c1] 22 (0, 0)) ∧ (w6.alloc (.cells #[.slice (some ⟨gR, 0, none⟩) n n] 22)).heap[w.heap.size + 1]? = some (.cells #[.int .i64 m] 3 (0, 0)) ∧ (w6.alloc (.cells #[.slice (some ⟨gR, 0, none⟩) n n] 22)).heap[w.heap.size + 2]? = some (.cells #[.int .i64 most] 3 (0, 0)) ∧ (w6.alloc (.cells #[.slice (some ⟨gR, 0, none⟩) n n] 22)).heap[w.heap.size + 3]? = some (.cells #[endF w.heap.size (w.heap.size + 1)] 92 (0, 0)) ∧ (w6.alloc (.cells #[.slice (some ⟨gR, 0, none⟩) n n] 22)).heap[w.heap.size + 4]? = some (.cells #[.int .i64 n] 3 (0, 0)) ∧ ReadsX w6.heap.size (.slice (some ⟨gR, 0, none⟩) n n) (List.replicate n (most : Int)) (w6.alloc (.cells #[.slice (some ⟨gR, 0, none⟩) n n] 22)) ∧ (w6.alloc (.cells #[.slice (some ⟨gR, 0, none⟩) n n] 22)).heap[w6.heap.size]? = some (.cells #[.slice (some ⟨gR, 0, none⟩) n n] 22 (0, 0)) ∧ ReadsX w6.heap.size (.slice A1 cs.length c1) cs (w6.alloc (.cells #[.slice (some ⟨gR, 0, none⟩) n n] 22))) :=
    ⟨HF.out.1.then_below ha HF.out.1.size, blk_below ha HF.out.2.1, blk_below ha HF.out.2.2.1, blk_below ha HF.out.2.2.2.1, blk_below ha HF.out.2.2.2.2.1, blk_below ha HF.out.2.2.2.2.2.1, (readsX_new HF.out.2.2.2.2.2.2 (Nat.le_refl _)).below ha, blk_new w6 _ rfl, (readsX_new (HR.out.below HF.out.1) (Nat.le_refl _)).below ha⟩
  clear HF ha
  go_upto_region 5 with (fail)
  generalize w6.alloc (.cells #[.slice (some ⟨gR, 0, none⟩) n n] 22) = w7 at *
  generalize w6.heap.size = g2 at *
  have q3 := cell_of_blk H7.out.2.2.2.2.1 0
  have l3 := lt_of_blk H7.out.2.2.2.2.1
  simp [endF] at q3
  go_wp2_with fail
  refine (CE.out w.heap.size (w.heap.size + 1) _ w7 H7.out.2.2.2.2.2.2.2.2.reads H7.out.2.2.2.2.2.2.1.reads H7.out.2.1 H7.out.2.2.1).mono ?_
  rintro e w8 ⟨rfl, b8⟩
  clear q3 l3
  go_upto_region 8 with (fail)
  rw [show (Value.func (.func 68) #[] #[.pointer (some ⟨w.heap.size + 4, 0, none⟩), .pointer (some ⟨g2, 0, none⟩), .pointer (some ⟨w.heap.size + 3, 0, none⟩), .pointer (some ⟨w8.heap.size, 0, none⟩), .pointer (some ⟨w.heap.size + 2, 0, none⟩), .pointer (some ⟨w8.heap.size + 1, 0, none⟩)]) = tryF (w.heap.size + 4) g2 (w.heap.size + 3) w8.heap.size (w.heap.size + 2) (w8.heap.size + 1) from rfl]
  have B10 : Below w7.heap.size w7 ((w8.alloc (.cells #[.int .i64 G] 3)).alloc (.cells #[tryF (w.heap.size + 4) g2 (w.heap.size + 3) w8.heap.size (w.heap.size + 2) (w8.heap.size + 1)] 106)) := b8.then_below (((Below.refl _ _).alloc (Nat.le_refl _) _).alloc (by simp) _) b8.size
  have hz8 := b8.size
  have hl7 := lt_of_blk H7.out.2.2.2.2.2.2.2.1
  have HEE : Hid (EE cs m n most G (.slice A1 cs.length c1) (w.heap.size + 4) g2 (w.heap.size + 3) w8.heap.size (w.heap.size + 2) (w8.heap.size + 1) w.heap.size (w.heap.size + 1) ((w8.alloc (.cells #[.int .i64 G] 3)).alloc (.cells #[tryF (w.heap.size + 4) g2 (w.heap.size + 3) w8.heap.size (w.heap.size + 2) (w8.heap.size + 1)] 106))) :=
    ⟨blk_below B10 H7.out.2.2.2.2.2.1, blk_below B10 H7.out.2.2.2.2.1, blk_alloc (blk_new w8 _ rfl) _, blk_below B10 H7.out.2.2.2.1, blk_new _ _ (by simp), blk_below B10 H7.out.2.1, blk_below B10 H7.out.2.2.1, H7.out.2.2.2.2.2.2.2.2.below B10, by omega, by omega, by omega, by omega, by omega, by omega, by omega⟩
  have HBB : Hid (BB g2 (List.replicate n (most : Int)) ((w8.alloc (.cells #[.int .i64 G] 3)).alloc (.cells #[tryF (w.heap.size + 4) g2 (w.heap.size + 3) w8.heap.size (w.heap.size + 2) (w8.heap.size + 1)] 106))) := by
    refine ⟨some ⟨gR, 0, none⟩, n, ?_, ?_⟩
    · rw [List.length_replicate]
      exact blk_below B10 H7.out.2.2.2.2.2.2.2.1
    · rw [List.length_replicate]
      exact H7.out.2.2.2.2.2.2.1.below B10
  have HBW : Hid (Below w.heap.size w ((w8.alloc (.cells #[.int .i64 G] 3)).alloc (.cells #[tryF (w.heap.size + 4) g2 (w.heap.size + 3) w8.heap.size (w.heap.size + 2) (w8.heap.size + 1)] 106))) := H7.out.1.then_below B10 H7.out.1.size
  generalize (w8.alloc (.cells #[.int .i64 G] 3)).alloc (.cells #[tryF (w.heap.size + 4) g2 (w.heap.size + 3) w8.heap.size (w.heap.size + 2) (w8.heap.size + 1)] 106) = w10 at *
  have CT1 := Lib.hid (CT.out (w.heap.size + 4) g2 (w.heap.size + 3) w8.heap.size (w.heap.size + 2) (w8.heap.size + 1) w.heap.size (w.heap.size + 1) (List.replicate n (most : Int)) w10 (by simp) (by simp) (by simp) HEE.out ⟨none, 0, rfl, .inl rfl⟩)
  have q6 := cell_of_blk HEE.out.k6 0
  have l6 := lt_of_blk HEE.out.k6
  simp [tryF] at q6
  clear b8 B10 CT CE H7 hl7
  go_wp2_with fail
  refine (CT1.out HBB.out (.inr ⟨rfl, rfl⟩)).mono ?_
  rintro e w11 ⟨rfl, hk, A, c, hb1, hb2⟩
  rw [List.length_replicate] at hb1 hb2
  have HK : Hid (Below w.heap.size w w11) := by
    obtain ⟨x, y, z⟩ := hk.outer
    refine HBW.out.trans ⟨x, y, z, hk.more, fun i hi => hk.old i (Nat.lt_of_lt_of_le hi HBW.out.size) (by omega)⟩
  have HR11 := Lib.hid hb2.reads
  obtain ⟨q7, _, l7⟩ := blk1 hb1
  clear hk hb1 hb2 q6 l6 CT1
  go_wp2_with fail
  go_ret
  exact ⟨_, rfl, HR11.out, HK.out⟩
end Go.Proofs.Ytiooimfkobjpkaa
