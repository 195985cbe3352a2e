/-
  The reference writes a product.
-/
import Derived.Test.YtalconjnjaffkaaGreatDoorTxN
namespace Go.Proofs.YtalconjnjaffkaaGreatDoor
open Go.RowKit
set_option linter.unusedSimpArgs false
set_option linter.unusedVariables false

theorem numsLen (l : List Int) (hl : l.length ≤ 10) (hr : ∀ x ∈ l, 0 ≤ x ∧ x ≤ 500000) : (Lib.join ((l.map itB).map bt) (bt ⟨#[32]⟩)).length ≤ 140737488355328 := by
  have h1 : Lib.lens ((l.map itB).map bt) ≤ ((l.map itB).map bt).length * 21 := by
    unfold Lib.lens
    have := sum_le (((l.map itB).map bt).map (·.length)) 21 (by
      intro z hz
      simp only [List.map_map, List.mem_map] at hz
      obtain ⟨x, hx, rfl⟩ := hz
      have hxr := hr x hx
      exact itB_size (by omega) (by omega))
    rwa [List.length_map] at this
  rw [List.length_map, List.length_map] at h1
  cases l with
  | nil => simp [Lib.join_nil]
  | cons x r =>
    rw [List.map_cons, List.map_cons] at h1 ⊢
    rw [Lib.join_length, show (bt ⟨#[32]⟩).length = 1 from rfl]
    simp only [List.length_cons, List.length_map] at h1 hl ⊢
    omega

set_option maxHeartbeats 2000000 in
theorem numsT_any (l : List Int) (hl : l.length ≤ 10) (hr : ∀ x ∈ l, 0 ≤ x ∧ x ≤ 500000) {g : Nat} {w : World} (hk : w.heap[g]? = some (.cells (l.map (Value.int .i64)).toArray 3 (0, 0))) (hGl : Gl w) (hw : gLow ≤ w.heap.size) :
    Calls Tryz.prog 87 #[.slice (some ⟨g, 0, none⟩) l.length l.length] w fun e w' => e = .returned (.string (joinB (l.map itB) ⟨#[32]⟩)) ∧ Below w.heap.size w w' := by
  have HK := Lib.hid hk
  have hg := lt_of_blk hk
  have HR := Lib.hid hr
  clear hk hr
  go_enter Tryz.func87, Tryz.ntmps87
  go_wp2_with fail
  go_loopw [3, 8] (fun v3 kk wr => ∃ k : Nat, k ≤ l.length ∧ kk = .int .i64 k ∧ w.heap.size ≤ wr.heap.size ∧ Hid (Below w.heap.size w wr ∧ wr.ownsRow w.heap.size 9 1 v3 k (((l.take k).map itB).map Value.string))) (fun _ kk _ => l.length - (intOf kk).toNat)
  case atStart => exact ⟨0, by omega, rfl, Nat.le_refl _, Below.refl _ _, World.ownsRow_nil _ _ _ _⟩
  case round =>
    obtain ⟨k, hk, rfl, hwz, HS⟩ := hrel
    obtain ⟨A3, c3, rfl, hc3, _⟩ := own_slice' HS.out.2
    by_cases hlt : k < l.length
    · obtain ⟨x, hx⟩ : ∃ x, l[k] = x := ⟨_, rfl⟩
      have HN : Hid (l.take (k + 1) = l.take k ++ [x]) := by
        show _ = _
        rw [List.take_add_one, List.getElem?_eq_getElem hlt, hx]; rfl
      have hxr := HR.out x (by rw [← hx]; exact List.getElem_mem hlt)
      have c0 : wr.cell? ⟨g, k, none⟩ = some (.int .i64 x) := by
        rw [HS.out.1.cell (p := ⟨g, k, none⟩) hg, cell_of_blk HK.out]
        simp [hlt, hx]
      have hgr : g < wr.heap.size := Nat.lt_of_lt_of_le hg hwz
      have CI := Lib.hid (itoa_any x (by omega) (by omega) wr (hGl.below HS.out.1 hw))
      clear hx
      go_wp2_with fail
      refine CI.out.mono ?_
      rintro e w1 ⟨rfl, b1⟩
      have H1 : Hid (Below w.heap.size w w1 ∧ w1.ownsRow w.heap.size 9 1 (.slice A3 k c3) k (((l.take k).map itB).map Value.string)) := ⟨HS.out.1.then_below b1 hwz, own_below HS.out.2 b1⟩
      have hwz1 := H1.out.1.size
      clear b1 CI HS c0
      obtain ⟨i0, hi, hz0, hz1, hz2⟩ := info_parts str_infoT
      have HI := Lib.hid (And.intro hi (And.intro hz0 (And.intro hz1 hz2)))
      clear hi hz0 hz1 hz2
      go_wp2_with (at_builtin; refine hold ?_)
      refine loose ?_
      refine wpList_append_own _ rfl _ _ 46 rfl w.heap.size 9 i0 _ 1 16 Tryz.underlying46 HI.out.1 HI.out.2.1 HI.out.2.2.1 HI.out.2.2.2 rfl (by omega) _ k (((l.take k).map itB).map Value.string) rfl (World.ownsRow.alloc H1.out.2 _) ⟨w1.heap.size, 0, none⟩ 1 1 [.string (itB x)] rfl rfl (cell_one_new _ _ _) (by intro u hu; simp at hu; subst hu; rfl) (by unfold maxLen; omega) (by omega) (by have := H1.out.1.size; simp; omega) ?_
      intro v' w' hown' hg' _
      have HF2 : Hid (Below w.heap.size w w' ∧ w'.ownsRow w.heap.size 9 1 v' (k + 1) (((l.take (k + 1)).map itB).map Value.string)) := by
        refine ⟨(H1.out.1.alloc hwz1 _).grown hg' (by simp; omega) (fun j hj => (H1.out.2.lt j hj).1), ?_⟩
        rw [HN.out, List.map_append, List.map_append]
        exact hown'
      have hz2 := HF2.out.1.size
      clear hown' hg' HN H1
      go_wp2_with fail
      go_roundw
      case rel => exact ⟨k + 1, by omega, by go_num, hz2, HF2⟩
      case measure => simp [intOf]; omega
    · obtain rfl : k = l.length := by omega
      have HS9 := HS.out.2
      rw [List.take_of_length_le (Nat.le_refl _)] at HS9
      have CJ := Lib.hid (join_any (l.map itB) ⟨#[32]⟩ (strs_own HS9 (by simp)) (by simp; omega) (numsLen l hl HR.out))
      have HB := Lib.hid HS.out.1
      clear HS HS9
      go_wp2_with fail
      refine CJ.out.mono ?_
      rintro e w9 ⟨rfl, b9⟩
      have HBF := Lib.hid (HB.out.then_below b9 HB.out.size)
      clear b9 CJ
      go_wp2_with fail
      go_ret
      exact ⟨rfl, HBF.out⟩

theorem PrFit.take {key : ByteArray} {W H : Int} {l : List Pl} (h : PrFit key W H l) (k : Nat) : PrFit key W H (l.take k) :=
  ⟨h.key, h.w0, h.w1, h.h0, h.h1, by rw [List.length_take]; have := h.len; omega, fun p hp => h.pls p (List.mem_of_mem_take hp)⟩
theorem textK_size {key : ByteArray} {W H : Int} {l : List Pl} (h : PrFit key W H l) (k : Nat) : (textK key W H l k).size ≤ 200000 := text_size (h.take k)

set_option maxRecDepth 100000 in
set_option maxHeartbeats 8000000 in
theorem plines_any (key : ByteArray) (Wd Hg : Int) (A : Option Addr) (c : Nat) (l : List Pl) (hf : PrFit key Wd Hg l) (w : World) (hA : PlAt w A l) (hGl : Gl w) (hw : gLow ≤ w.heap.size) :
    Calls Tryz.prog 23 #[prod key Wd Hg A l.length c] w fun e w' => e = .returned (.string (textB key Wd Hg l)) ∧ Below w.heap.size w w' := by
  have HP := Lib.hid hf
  have H1 : Hid (Below w.heap.size w (w.alloc (.cells #[.string key, .int .i64 Wd, .int .i64 Hg, .slice A l.length c] 44)) ∧ (w.alloc (.cells #[.string key, .int .i64 Wd, .int .i64 Hg, .slice A l.length c] 44)).heap[w.heap.size]? = some (.cells #[.string key, .int .i64 Wd, .int .i64 Hg, .slice A l.length c] 44 (0, 0))) := ⟨(Below.refl _ _).alloc (Nat.le_refl _) _, blk_new w _ rfl⟩
  have hl1 := hf.len
  have hk1 := hf.key
  have CN := Lib.hid (fun (g : Nat) (u : World) (hk : u.heap[g]? = some (.cells #[.int .i64 Wd, .int .i64 Hg] 3 (0, 0))) (hu : Below w.heap.size w u) => numsT_any [Wd, Hg] (by simp) (by
    have := HP.out.w0; have := HP.out.w1; have := HP.out.h0; have := HP.out.h1
    intro x hx
    simp at hx
    rcases hx with rfl | rfl <;> omega) (g := g) (w := u) hk (hGl.below hu hw) (Nat.le_trans hw hu.size))
  simp only [List.map_cons, List.map_nil, List.length_cons, List.length_nil, Nat.zero_add, Nat.reduceAdd] at CN
  have HR := Lib.hid (head_ref key Wd Hg)
  have hjs : (joinB [itB Wd, itB Hg] ⟨#[32]⟩).size ≤ 93 := by
    have h2 := headLine_size hf
    rw [← HR.out] at h2
    simp only [size_append] at h2
    omega
  generalize joinB [itB Wd, itB Hg] ⟨#[32]⟩ = J at *
  clear hf
  go_enter Tryz.func23, Tryz.ntmps23
  go_upto_region 1 with (fail)
  generalize w.alloc (.cells #[.string key, .int .i64 Wd, .int .i64 Hg, .slice A l.length c] 44) = w1 at *
  have hpl := lt_of_blk H1.out.2
  refine Rg.rgL (fun a b => Below a.heap.size a b)
    [(fun vs u => vs 0 = .pointer (some ⟨w.heap.size, 0, none⟩)), (fun vs u => vs 1 = .string key), (fun vs u => vs 2 = .string (⟨#[112, 114, 111, 100, 117, 99, 116, 32]⟩ ++ key)), (fun vs u => vs 3 = .string (⟨#[112, 114, 111, 100, 117, 99, 116, 32]⟩ ++ key ++ ⟨#[32]⟩)), (fun vs u => vs 4 = .pointer (some ⟨w.heap.size, 1, none⟩)), (fun vs u => vs 5 = .int .i64 Wd), (fun vs u => vs 6 = .pointer (some ⟨w.heap.size, 2, none⟩)), (fun vs u => vs 7 = .int .i64 Hg), (fun vs u => ∃ b : Nat, vs 8 = .slice (some ⟨b, 0, none⟩) 2 2 ∧ u.heap[b]? = some (.cells #[.int .i64 Wd, .int .i64 Hg] 3 (0, 0))), (fun vs u => vs 9 = .string J)]
    [[], [0], [0, 1], [0, 1, 2], [], [4], [], [6], [4, 5, 6, 7], [4, 5, 6, 7, 8]] [some 6, some 7, some 8, some 9, some 10, some 11, some 12, some 13, some 14, some 15, some 16, some 17, some 3] [8] (fun _ _ => True) [[], [0], [0, 1], [0, 1, 2], [], [4], [], [6], [4, 5, 6, 7], [4, 5, 6, 7, 8], [0, 1, 2, 3, 4, 5, 6, 7, 8, 9], [0, 1, 2, 3, 4, 5, 6, 7, 8, 9, 10], [0, 1, 2, 3, 4, 5, 6, 7, 8, 9, 10, 11]]
    (by kernel_rfl) (by decide) (by kernel_rfl) (by kernel_rfl) (by kernel_rfl) (by kernel_rfl) (by kernel_rfl) (fun _ => Below.refl _ _) (fun _ _ _ h k => h.ext k) (fun _ _ h => h.size) ?_ trivial ?_ ?_
  · intro t ht vs w w' h hE
    simp only [List.mem_cons, List.not_mem_nil, or_false] at ht
    rcases ht with rfl | rfl | rfl | rfl | rfl | rfl | rfl | rfl | rfl | rfl
    · exact h
    · exact h
    · exact h
    · exact h
    · exact h
    · exact h
    · exact h
    · exact h
    · obtain ⟨b, e, k⟩ := h
      exact ⟨b, e, blk_below hE k⟩
    · exact h
  ·
    refine Rg.cons 0 1 rfl (Rg.plain rfl ?_) ?_
    · intro vs W n hn hI hG hT hF K hK
      simp only [Rg.putsD, List.getD_cons_zero, List.getD_cons_succ, Act.put, List.setIfInBounds_toArray, List.set_cons_zero, List.set_cons_succ] at hK ⊢
      clear hn
      clear hF hI
      have H := Lib.hid hK
      clear hK hT
      go_simp
      exact H.out _ _ (Below.refl _ _) rfl (fun h => by cases h) trivial
    refine Rg.cons 1 2 rfl (Rg.plain rfl ?_) ?_
    · intro vs W n hn hI hG hT hF K hK
      simp only [Rg.putsD, List.getD_cons_zero, List.getD_cons_succ, Act.put, List.setIfInBounds_toArray, List.set_cons_zero, List.set_cons_succ] at hK ⊢
      clear hn
      clear hF hI
      have t0 : vs 0 = .pointer (some ⟨w.heap.size, 0, none⟩) := hT 0 (by decide)
      obtain ⟨c0, c1, c2, c3⟩ := blk4 (blk_below hG H1.out.2)
      simp only [t0] at hK
      have H := Lib.hid hK
      clear hK hT
      go_simp
      exact H.out _ _ (Below.refl _ _) rfl (fun h => by cases h) trivial
    refine Rg.cons 2 3 rfl (Rg.plain rfl ?_) ?_
    · intro vs W n hn hI hG hT hF K hK
      simp only [Rg.putsD, List.getD_cons_zero, List.getD_cons_succ, Act.put, List.setIfInBounds_toArray, List.set_cons_zero, List.set_cons_succ] at hK ⊢
      clear hn
      clear hF hI
      have t0 : vs 0 = .pointer (some ⟨w.heap.size, 0, none⟩) := hT 0 (by decide)
      have t1 : vs 1 = .string key := hT 1 (by decide)
      have hn1 : ¬ 9223372036854775807 < 8 + key.size := by omega
      simp only [t0, t1] at hK
      have H := Lib.hid hK
      clear hK hT
      go_simp
      exact H.out _ _ (Below.refl _ _) rfl (fun h => by cases h) trivial
    refine Rg.cons 3 4 rfl (Rg.plain rfl ?_) ?_
    · intro vs W n hn hI hG hT hF K hK
      simp only [Rg.putsD, List.getD_cons_zero, List.getD_cons_succ, Act.put, List.setIfInBounds_toArray, List.set_cons_zero, List.set_cons_succ] at hK ⊢
      clear hn
      clear hF hI
      have t0 : vs 0 = .pointer (some ⟨w.heap.size, 0, none⟩) := hT 0 (by decide)
      have t1 : vs 1 = .string key := hT 1 (by decide)
      have t2 : vs 2 = .string (⟨#[112, 114, 111, 100, 117, 99, 116, 32]⟩ ++ key) := hT 2 (by decide)
      have hn1 : ¬ 9223372036854775807 < 8 + key.size + 1 := by omega
      simp only [t0, t1, t2] at hK
      have H := Lib.hid hK
      clear hK hT
      go_simp
      exact H.out _ _ (Below.refl _ _) rfl (fun h => by cases h) trivial
    refine Rg.cons 4 5 rfl (Rg.plain rfl ?_) ?_
    · intro vs W n hn hI hG hT hF K hK
      simp only [Rg.putsD, List.getD_cons_zero, List.getD_cons_succ, Act.put, List.setIfInBounds_toArray, List.set_cons_zero, List.set_cons_succ] at hK ⊢
      clear hn
      clear hF hI
      have H := Lib.hid hK
      clear hK hT
      go_simp
      exact H.out _ _ (Below.refl _ _) rfl (fun h => by cases h) trivial
    refine Rg.cons 5 6 rfl (Rg.plain rfl ?_) ?_
    · intro vs W n hn hI hG hT hF K hK
      simp only [Rg.putsD, List.getD_cons_zero, List.getD_cons_succ, Act.put, List.setIfInBounds_toArray, List.set_cons_zero, List.set_cons_succ] at hK ⊢
      clear hn
      clear hF hI
      have t4 : vs 4 = .pointer (some ⟨w.heap.size, 1, none⟩) := hT 4 (by decide)
      obtain ⟨c0, c1, c2, c3⟩ := blk4 (blk_below hG H1.out.2)
      simp only [t4] at hK
      have H := Lib.hid hK
      clear hK hT
      go_simp
      exact H.out _ _ (Below.refl _ _) rfl (fun h => by cases h) trivial
    refine Rg.cons 6 7 rfl (Rg.plain rfl ?_) ?_
    · intro vs W n hn hI hG hT hF K hK
      simp only [Rg.putsD, List.getD_cons_zero, List.getD_cons_succ, Act.put, List.setIfInBounds_toArray, List.set_cons_zero, List.set_cons_succ] at hK ⊢
      clear hn
      clear hF hI
      have H := Lib.hid hK
      clear hK hT
      go_simp
      exact H.out _ _ (Below.refl _ _) rfl (fun h => by cases h) trivial
    refine Rg.cons 7 8 rfl (Rg.plain rfl ?_) ?_
    · intro vs W n hn hI hG hT hF K hK
      simp only [Rg.putsD, List.getD_cons_zero, List.getD_cons_succ, Act.put, List.setIfInBounds_toArray, List.set_cons_zero, List.set_cons_succ] at hK ⊢
      clear hn
      clear hF hI
      have t6 : vs 6 = .pointer (some ⟨w.heap.size, 2, none⟩) := hT 6 (by decide)
      obtain ⟨c0, c1, c2, c3⟩ := blk4 (blk_below hG H1.out.2)
      simp only [t6] at hK
      have H := Lib.hid hK
      clear hK hT
      go_simp
      exact H.out _ _ (Below.refl _ _) rfl (fun h => by cases h) trivial
    refine Rg.cons 8 9 rfl (Rg.plain rfl ?_) ?_
    · intro vs W n hn hI hG hT hF K hK
      simp only [Rg.putsD, List.getD_cons_zero, List.getD_cons_succ, Act.put, List.setIfInBounds_toArray, List.set_cons_zero, List.set_cons_succ] at hK ⊢
      clear hn
      clear hF hI
      have t4 : vs 4 = .pointer (some ⟨w.heap.size, 1, none⟩) := hT 4 (by decide)
      have t5 : vs 5 = .int .i64 Wd := hT 5 (by decide)
      have t6 : vs 6 = .pointer (some ⟨w.heap.size, 2, none⟩) := hT 6 (by decide)
      have t7 : vs 7 = .int .i64 Hg := hT 7 (by decide)
      simp only [t4, t5, t6, t7] at hK
      have H := Lib.hid hK
      clear hK hT
      go_simp
      exact H.out _ _ ((Below.refl _ _).alloc (Nat.le_refl _) _) (show ∃ b : Nat, _ = _ ∧ _ = _ from ⟨_, rfl, blk_new W _ rfl⟩) (fun _ => ⟨W.heap.size, rfl, Nat.le_refl _, by simp⟩) trivial
    refine Rg.cons 9 10 rfl (Rg.plain rfl ?_) ?_
    · intro vs W n hn hI hG hT hF K hK
      simp only [Rg.putsD, List.getD_cons_zero, List.getD_cons_succ, Act.put, List.setIfInBounds_toArray, List.set_cons_zero, List.set_cons_succ] at hK ⊢
      clear hn
      clear hF hI
      have t4 : vs 4 = .pointer (some ⟨w.heap.size, 1, none⟩) := hT 4 (by decide)
      have t5 : vs 5 = .int .i64 Wd := hT 5 (by decide)
      have t6 : vs 6 = .pointer (some ⟨w.heap.size, 2, none⟩) := hT 6 (by decide)
      have t7 : vs 7 = .int .i64 Hg := hT 7 (by decide)
      have t8 : ∃ b : Nat, vs 8 = .slice (some ⟨b, 0, none⟩) 2 2 ∧ W.heap[b]? = some (.cells #[.int .i64 Wd, .int .i64 Hg] 3 (0, 0)) := hT 8 (by decide)
      obtain ⟨b8, e8, k8⟩ := t8
      simp only [e8] at hK
      have HG := Lib.hid hG
      have K8 := Lib.hid k8
      clear hG k8
      simp only [t4, t5, t6, t7] at hK
      have H := Lib.hid hK
      clear hK hT
      go_simp
      refine (CN.out _ _ K8.out (H1.out.1.drew.then_below HG.out (Nat.le_of_lt hpl))).mono ?_
      rintro e w6 ⟨rfl, b6⟩
      exact H.out _ _ b6 rfl (fun h => by cases h) trivial
    exact Rg.nil
  · intro vs W hG hI hT hF
    have t0 : vs 0 = .pointer (some ⟨w.heap.size, 0, none⟩) := hT 0 (by decide)
    have t1 : vs 1 = .string key := hT 1 (by decide)
    have t2 : vs 2 = .string (⟨#[112, 114, 111, 100, 117, 99, 116, 32]⟩ ++ key) := hT 2 (by decide)
    have t3 : vs 3 = .string (⟨#[112, 114, 111, 100, 117, 99, 116, 32]⟩ ++ key ++ ⟨#[32]⟩) := hT 3 (by decide)
    have t4 : vs 4 = .pointer (some ⟨w.heap.size, 1, none⟩) := hT 4 (by decide)
    have t5 : vs 5 = .int .i64 Wd := hT 5 (by decide)
    have t6 : vs 6 = .pointer (some ⟨w.heap.size, 2, none⟩) := hT 6 (by decide)
    have t7 : vs 7 = .int .i64 Hg := hT 7 (by decide)
    have t8 : ∃ b : Nat, vs 8 = .slice (some ⟨b, 0, none⟩) 2 2 ∧ W.heap[b]? = some (.cells #[.int .i64 Wd, .int .i64 Hg] 3 (0, 0)) := hT 8 (by decide)
    have t9 : vs 9 = .string J := hT 9 (by decide)
    simp only [List.length_cons, List.length_nil, Nat.reduceAdd, List.range, List.range.loop, List.drop_succ_cons, List.drop_zero, Rg.putsD, List.getD_cons_zero, List.getD_cons_succ, Act.put, List.setIfInBounds_toArray, List.set_cons_zero, List.set_cons_succ, t0, t1, t2, t3, t4, t5, t6, t7, t9]
    clear hT t0 t1 t2 t3 t4 t5 t6 t7 t9
    have hn1 : ¬ 9223372036854775807 < 8 + key.size + 1 + J.size := by omega
    have hn2 : ¬ 9223372036854775807 < 8 + key.size + 1 + J.size + 1 := by omega
    have H2 : Hid (Below w.heap.size w W ∧ W.heap[w.heap.size]? = some (.cells #[.string key, .int .i64 Wd, .int .i64 Hg, .slice A l.length c] 44 (0, 0))) :=
      ⟨H1.out.1.drew.then_below hG (Nat.le_of_lt hpl), blk_below hG H1.out.2⟩
    obtain ⟨b8, e8, _⟩ := t8
    simp only [e8]
    clear hF hG hI H1 CN hpl e8
    go_upto_region 2 with (fail)
    rw [HR.out, ← textK_zero key Wd Hg l]
    clear hn1 hn2 hjs HR
    obtain ⟨p0, p1, p2, p3⟩ := blk4 H2.out.2
    have hpl := lt_of_blk H2.out.2
    have HS5 : Hid (Below w.heap.size w W) := H2.out.1
    clear H2
    go_wp2_with fail
    go_loopw [3, 21] (fun v3 kk wr => ∃ k : Nat, k ≤ l.length ∧ kk = .int .i64 k ∧ w.heap.size ≤ wr.heap.size ∧ v3 = .string (textK key Wd Hg l k) ∧ Hid (Below w.heap.size w wr)) (fun _ kk _ => l.length - (intOf kk).toNat)
    case atStart => exact ⟨0, by omega, rfl, HS5.out.size, rfl, HS5⟩
    case round =>
      obtain ⟨k, hk, rfl, hwz, rfl, HS⟩ := hrel
      by_cases hlt : k < l.length
      · obtain ⟨p, hp⟩ : ∃ p, l[k] = p := ⟨_, rfl⟩
        have HN := Lib.hid (textK_succ key Wd Hg l hlt)
        rw [hp] at HN
        have hts := textK_size HP.out k
        generalize textK key Wd Hg l k = T at *
        have HFp : Hid (PlFit p) := HP.out.pls p (by rw [← hp]; exact List.getElem_mem hlt)
        obtain ⟨g, rfl, hrow⟩ : ∃ g : Nat, A = some ⟨g, 0, none⟩ ∧ LineAt w g (flatP l) := by
          rcases hA with rfl | h
          · simp at hlt
          · exact h
        obtain ⟨q0, q1, q2, q3, q4⟩ := row_pl (hrow.below HS.out) hlt
        rw [hp] at q0 q1 q2 q3 q4
        have HR := Lib.hid (place_ref p)
        obtain ⟨nm, pt, x, y, q⟩ := p
        dsimp only at q0 q1 q2 q3 q4 HR
        have hg1 : g < wr.heap.size := Nat.lt_of_lt_of_le hrow.1 hwz
        have HP9 := Lib.hid hp
        have CN := Lib.hid (fun (g : Nat) (u : World) (hk : u.heap[g]? = some (.cells #[.int .i64 x, .int .i64 y, .int .i64 q] 3 (0, 0))) (hu : Below w.heap.size w u) => numsT_any [x, y, q] (by simp) (by
          obtain ⟨_, _, x0, x1, y0, y1, q0, q1⟩ := HFp.out
          dsimp only at x0 x1 y0 y1 q0 q1
          intro z hz
          simp at hz
          rcases hz with rfl | rfl | rfl <;> omega) (g := g) (w := u) hk (hGl.below hu hw) (Nat.le_trans hw hu.size))
        simp only [List.map_cons, List.map_nil, List.length_cons, List.length_nil, Nat.zero_add, Nat.reduceAdd] at CN
        have hjs : (joinB [itB x, itB y, itB q] ⟨#[32]⟩).size ≤ 154 := by
          have h2 := placeLine_size HFp.out
          rw [← HR.out] at h2
          simp only [size_append] at h2
          omega
        generalize joinB [itB x, itB y, itB q] ⟨#[32]⟩ = J at *
        have hnm : nm.size ≤ 40 := HFp.out.name
        have hpt : pt.size ≤ 40 := HFp.out.part
        have H6 : Hid (Below w.heap.size w (wr.alloc (.cells #[.string nm, .string pt, .int .i64 x, .int .i64 y, .int .i64 q] 124)) ∧ (wr.alloc (.cells #[.string nm, .string pt, .int .i64 x, .int .i64 y, .int .i64 q] 124)).heap[wr.heap.size]? = some (.cells #[.string nm, .string pt, .int .i64 x, .int .i64 y, .int .i64 q] 124 (0, 0))) :=
          ⟨HS.out.alloc hwz _, blk_new wr _ rfl⟩
        clear hrow hp hA HS HS5
        go_upto_region 5 with (fail)
        generalize wr.alloc (.cells #[.string nm, .string pt, .int .i64 x, .int .i64 y, .int .i64 q] 124) = wx at *
        have hxl := lt_of_blk H6.out.2
        have hzx := H6.out.1.size
        refine Rg.rgL (fun a b => Below a.heap.size a b)
          [(fun vs u => vs 0 = .string T), (fun vs u => vs 1 = .pointer (some ⟨wr.heap.size, 0, none⟩)), (fun vs u => vs 2 = .string nm), (fun vs u => vs 3 = .string (⟨#[112, 108, 97, 99, 101, 32]⟩ ++ nm)), (fun vs u => vs 4 = .string (⟨#[112, 108, 97, 99, 101, 32]⟩ ++ nm ++ ⟨#[32]⟩)), (fun vs u => vs 5 = .pointer (some ⟨wr.heap.size, 1, none⟩)), (fun vs u => vs 6 = .string pt), (fun vs u => vs 7 = .string (⟨#[112, 108, 97, 99, 101, 32]⟩ ++ nm ++ ⟨#[32]⟩ ++ pt)), (fun vs u => vs 8 = .string (⟨#[112, 108, 97, 99, 101, 32]⟩ ++ nm ++ ⟨#[32]⟩ ++ pt ++ ⟨#[32]⟩)), (fun vs u => vs 9 = .pointer (some ⟨wr.heap.size, 2, none⟩)), (fun vs u => vs 10 = .int .i64 x), (fun vs u => vs 11 = .pointer (some ⟨wr.heap.size, 3, none⟩)), (fun vs u => vs 12 = .int .i64 y), (fun vs u => vs 13 = .pointer (some ⟨wr.heap.size, 4, none⟩)), (fun vs u => vs 14 = .int .i64 q), (fun vs u => ∃ b : Nat, vs 15 = .slice (some ⟨b, 0, none⟩) 3 3 ∧ u.heap[b]? = some (.cells #[.int .i64 x, .int .i64 y, .int .i64 q] 3 (0, 0))), (fun vs u => vs 16 = .string J), (fun vs u => vs 17 = .string (⟨#[112, 108, 97, 99, 101, 32]⟩ ++ nm ++ ⟨#[32]⟩ ++ pt ++ ⟨#[32]⟩ ++ J)), (fun vs u => vs 18 = .string (⟨#[112, 108, 97, 99, 101, 32]⟩ ++ nm ++ ⟨#[32]⟩ ++ pt ++ ⟨#[32]⟩ ++ J ++ ⟨#[10]⟩))]
          [[], [], [1], [1, 2], [1, 2, 3], [], [5], [1, 2, 3, 4, 5, 6], [1, 2, 3, 4, 5, 6, 7], [], [9], [], [11], [], [13], [9, 10, 11, 12, 13, 14], [9, 10, 11, 12, 13, 14, 15], [1, 2, 3, 4, 5, 6, 7, 8, 9, 10, 11, 12, 13, 14, 15, 16], [1, 2, 3, 4, 5, 6, 7, 8, 9, 10, 11, 12, 13, 14, 15, 16, 17]] [some 25, some 26, some 27, some 28, some 29, some 30, some 31, some 32, some 33, some 34, some 35, some 36, some 37, some 38, some 39, some 40, some 41, some 42, some 43, some 44, some 3] [15] (fun _ _ => True) [[], [], [1], [1, 2], [1, 2, 3], [], [5], [1, 2, 3, 4, 5, 6], [1, 2, 3, 4, 5, 6, 7], [], [9], [], [11], [], [13], [9, 10, 11, 12, 13, 14], [9, 10, 11, 12, 13, 14, 15], [1, 2, 3, 4, 5, 6, 7, 8, 9, 10, 11, 12, 13, 14, 15, 16], [1, 2, 3, 4, 5, 6, 7, 8, 9, 10, 11, 12, 13, 14, 15, 16, 17], [0, 1, 2, 3, 4, 5, 6, 7, 8, 9, 10, 11, 12, 13, 14, 15, 16, 17, 18], [0, 1, 2, 3, 4, 5, 6, 7, 8, 9, 10, 11, 12, 13, 14, 15, 16, 17, 18, 19]]
          (by kernel_rfl) (by decide) (by kernel_rfl) (by kernel_rfl) (by kernel_rfl) (by kernel_rfl) (by kernel_rfl) (fun _ => Below.refl _ _) (fun _ _ _ h k => h.ext k) (fun _ _ h => h.size) ?_ trivial ?_ ?_
        · intro t ht vs w w' h hE
          simp only [List.mem_cons, List.not_mem_nil, or_false] at ht
          rcases ht with rfl | rfl | rfl | rfl | rfl | rfl | rfl | rfl | rfl | rfl | rfl | rfl | rfl | rfl | rfl | rfl | rfl | rfl | rfl
          · exact h
          · exact h
          · exact h
          · exact h
          · exact h
          · exact h
          · exact h
          · exact h
          · exact h
          · exact h
          · exact h
          · exact h
          · exact h
          · exact h
          · exact h
          · obtain ⟨b, e, k⟩ := h
            exact ⟨b, e, blk_below hE k⟩
          · exact h
          · exact h
          · exact h
        ·
          refine Rg.cons 0 1 rfl (Rg.plain rfl ?_) ?_
          · intro vs W n hn hI hG hT hF K hK
            simp only [Rg.putsD, List.getD_cons_zero, List.getD_cons_succ, Act.put, List.setIfInBounds_toArray, List.set_cons_zero, List.set_cons_succ] at hK ⊢
            clear hn
            clear hF hI
            have H := Lib.hid hK
            clear hK hT
            go_simp
            exact H.out _ _ (Below.refl _ _) rfl (fun h => by cases h) trivial
          refine Rg.cons 1 2 rfl (Rg.plain rfl ?_) ?_
          · intro vs W n hn hI hG hT hF K hK
            simp only [Rg.putsD, List.getD_cons_zero, List.getD_cons_succ, Act.put, List.setIfInBounds_toArray, List.set_cons_zero, List.set_cons_succ] at hK ⊢
            clear hn
            clear hF hI
            have H := Lib.hid hK
            clear hK hT
            go_simp
            exact H.out _ _ (Below.refl _ _) rfl (fun h => by cases h) trivial
          refine Rg.cons 2 3 rfl (Rg.plain rfl ?_) ?_
          · intro vs W n hn hI hG hT hF K hK
            simp only [Rg.putsD, List.getD_cons_zero, List.getD_cons_succ, Act.put, List.setIfInBounds_toArray, List.set_cons_zero, List.set_cons_succ] at hK ⊢
            clear hn
            clear hF hI
            have t1 : vs 1 = .pointer (some ⟨wr.heap.size, 0, none⟩) := hT 1 (by decide)
            obtain ⟨c0, c1, c2, c3, c4⟩ := blk5p (blk_below hG H6.out.2)
            simp only [t1] at hK
            have H := Lib.hid hK
            clear hK hT
            go_simp
            exact H.out _ _ (Below.refl _ _) rfl (fun h => by cases h) trivial
          refine Rg.cons 3 4 rfl (Rg.plain rfl ?_) ?_
          · intro vs W n hn hI hG hT hF K hK
            simp only [Rg.putsD, List.getD_cons_zero, List.getD_cons_succ, Act.put, List.setIfInBounds_toArray, List.set_cons_zero, List.set_cons_succ] at hK ⊢
            clear hn
            clear hF hI
            have t1 : vs 1 = .pointer (some ⟨wr.heap.size, 0, none⟩) := hT 1 (by decide)
            have t2 : vs 2 = .string nm := hT 2 (by decide)
            have hn1 : ¬ 9223372036854775807 < 6 + nm.size := by omega
            simp only [t1, t2] at hK
            have H := Lib.hid hK
            clear hK hT
            go_simp
            exact H.out _ _ (Below.refl _ _) rfl (fun h => by cases h) trivial
          refine Rg.cons 4 5 rfl (Rg.plain rfl ?_) ?_
          · intro vs W n hn hI hG hT hF K hK
            simp only [Rg.putsD, List.getD_cons_zero, List.getD_cons_succ, Act.put, List.setIfInBounds_toArray, List.set_cons_zero, List.set_cons_succ] at hK ⊢
            clear hn
            clear hF hI
            have t1 : vs 1 = .pointer (some ⟨wr.heap.size, 0, none⟩) := hT 1 (by decide)
            have t2 : vs 2 = .string nm := hT 2 (by decide)
            have t3 : vs 3 = .string (⟨#[112, 108, 97, 99, 101, 32]⟩ ++ nm) := hT 3 (by decide)
            have hn1 : ¬ 9223372036854775807 < 6 + nm.size + 1 := by omega
            simp only [t1, t2, t3] at hK
            have H := Lib.hid hK
            clear hK hT
            go_simp
            exact H.out _ _ (Below.refl _ _) rfl (fun h => by cases h) trivial
          refine Rg.cons 5 6 rfl (Rg.plain rfl ?_) ?_
          · intro vs W n hn hI hG hT hF K hK
            simp only [Rg.putsD, List.getD_cons_zero, List.getD_cons_succ, Act.put, List.setIfInBounds_toArray, List.set_cons_zero, List.set_cons_succ] at hK ⊢
            clear hn
            clear hF hI
            have H := Lib.hid hK
            clear hK hT
            go_simp
            exact H.out _ _ (Below.refl _ _) rfl (fun h => by cases h) trivial
          refine Rg.cons 6 7 rfl (Rg.plain rfl ?_) ?_
          · intro vs W n hn hI hG hT hF K hK
            simp only [Rg.putsD, List.getD_cons_zero, List.getD_cons_succ, Act.put, List.setIfInBounds_toArray, List.set_cons_zero, List.set_cons_succ] at hK ⊢
            clear hn
            clear hF hI
            have t5 : vs 5 = .pointer (some ⟨wr.heap.size, 1, none⟩) := hT 5 (by decide)
            obtain ⟨c0, c1, c2, c3, c4⟩ := blk5p (blk_below hG H6.out.2)
            simp only [t5] at hK
            have H := Lib.hid hK
            clear hK hT
            go_simp
            exact H.out _ _ (Below.refl _ _) rfl (fun h => by cases h) trivial
          refine Rg.cons 7 8 rfl (Rg.plain rfl ?_) ?_
          · intro vs W n hn hI hG hT hF K hK
            simp only [Rg.putsD, List.getD_cons_zero, List.getD_cons_succ, Act.put, List.setIfInBounds_toArray, List.set_cons_zero, List.set_cons_succ] at hK ⊢
            clear hn
            clear hF hI
            have t1 : vs 1 = .pointer (some ⟨wr.heap.size, 0, none⟩) := hT 1 (by decide)
            have t2 : vs 2 = .string nm := hT 2 (by decide)
            have t3 : vs 3 = .string (⟨#[112, 108, 97, 99, 101, 32]⟩ ++ nm) := hT 3 (by decide)
            have t4 : vs 4 = .string (⟨#[112, 108, 97, 99, 101, 32]⟩ ++ nm ++ ⟨#[32]⟩) := hT 4 (by decide)
            have t5 : vs 5 = .pointer (some ⟨wr.heap.size, 1, none⟩) := hT 5 (by decide)
            have t6 : vs 6 = .string pt := hT 6 (by decide)
            have hn1 : ¬ 9223372036854775807 < 6 + nm.size + 1 + pt.size := by omega
            simp only [t1, t2, t3, t4, t5, t6] at hK
            have H := Lib.hid hK
            clear hK hT
            go_simp
            exact H.out _ _ (Below.refl _ _) rfl (fun h => by cases h) trivial
          refine Rg.cons 8 9 rfl (Rg.plain rfl ?_) ?_
          · intro vs W n hn hI hG hT hF K hK
            simp only [Rg.putsD, List.getD_cons_zero, List.getD_cons_succ, Act.put, List.setIfInBounds_toArray, List.set_cons_zero, List.set_cons_succ] at hK ⊢
            clear hn
            clear hF hI
            have t1 : vs 1 = .pointer (some ⟨wr.heap.size, 0, none⟩) := hT 1 (by decide)
            have t2 : vs 2 = .string nm := hT 2 (by decide)
            have t3 : vs 3 = .string (⟨#[112, 108, 97, 99, 101, 32]⟩ ++ nm) := hT 3 (by decide)
            have t4 : vs 4 = .string (⟨#[112, 108, 97, 99, 101, 32]⟩ ++ nm ++ ⟨#[32]⟩) := hT 4 (by decide)
            have t5 : vs 5 = .pointer (some ⟨wr.heap.size, 1, none⟩) := hT 5 (by decide)
            have t6 : vs 6 = .string pt := hT 6 (by decide)
            have t7 : vs 7 = .string (⟨#[112, 108, 97, 99, 101, 32]⟩ ++ nm ++ ⟨#[32]⟩ ++ pt) := hT 7 (by decide)
            have hn1 : ¬ 9223372036854775807 < 6 + nm.size + 1 + pt.size + 1 := by omega
            simp only [t1, t2, t3, t4, t5, t6, t7] at hK
            have H := Lib.hid hK
            clear hK hT
            go_simp
            exact H.out _ _ (Below.refl _ _) rfl (fun h => by cases h) trivial
          refine Rg.cons 9 10 rfl (Rg.plain rfl ?_) ?_
          · intro vs W n hn hI hG hT hF K hK
            simp only [Rg.putsD, List.getD_cons_zero, List.getD_cons_succ, Act.put, List.setIfInBounds_toArray, List.set_cons_zero, List.set_cons_succ] at hK ⊢
            clear hn
            clear hF hI
            have H := Lib.hid hK
            clear hK hT
            go_simp
            exact H.out _ _ (Below.refl _ _) rfl (fun h => by cases h) trivial
          refine Rg.cons 10 11 rfl (Rg.plain rfl ?_) ?_
          · intro vs W n hn hI hG hT hF K hK
            simp only [Rg.putsD, List.getD_cons_zero, List.getD_cons_succ, Act.put, List.setIfInBounds_toArray, List.set_cons_zero, List.set_cons_succ] at hK ⊢
            clear hn
            clear hF hI
            have t9 : vs 9 = .pointer (some ⟨wr.heap.size, 2, none⟩) := hT 9 (by decide)
            obtain ⟨c0, c1, c2, c3, c4⟩ := blk5p (blk_below hG H6.out.2)
            simp only [t9] at hK
            have H := Lib.hid hK
            clear hK hT
            go_simp
            exact H.out _ _ (Below.refl _ _) rfl (fun h => by cases h) trivial
          refine Rg.cons 11 12 rfl (Rg.plain rfl ?_) ?_
          · intro vs W n hn hI hG hT hF K hK
            simp only [Rg.putsD, List.getD_cons_zero, List.getD_cons_succ, Act.put, List.setIfInBounds_toArray, List.set_cons_zero, List.set_cons_succ] at hK ⊢
            clear hn
            clear hF hI
            have H := Lib.hid hK
            clear hK hT
            go_simp
            exact H.out _ _ (Below.refl _ _) rfl (fun h => by cases h) trivial
          refine Rg.cons 12 13 rfl (Rg.plain rfl ?_) ?_
          · intro vs W n hn hI hG hT hF K hK
            simp only [Rg.putsD, List.getD_cons_zero, List.getD_cons_succ, Act.put, List.setIfInBounds_toArray, List.set_cons_zero, List.set_cons_succ] at hK ⊢
            clear hn
            clear hF hI
            have t11 : vs 11 = .pointer (some ⟨wr.heap.size, 3, none⟩) := hT 11 (by decide)
            obtain ⟨c0, c1, c2, c3, c4⟩ := blk5p (blk_below hG H6.out.2)
            simp only [t11] at hK
            have H := Lib.hid hK
            clear hK hT
            go_simp
            exact H.out _ _ (Below.refl _ _) rfl (fun h => by cases h) trivial
          refine Rg.cons 13 14 rfl (Rg.plain rfl ?_) ?_
          · intro vs W n hn hI hG hT hF K hK
            simp only [Rg.putsD, List.getD_cons_zero, List.getD_cons_succ, Act.put, List.setIfInBounds_toArray, List.set_cons_zero, List.set_cons_succ] at hK ⊢
            clear hn
            clear hF hI
            have H := Lib.hid hK
            clear hK hT
            go_simp
            exact H.out _ _ (Below.refl _ _) rfl (fun h => by cases h) trivial
          refine Rg.cons 14 15 rfl (Rg.plain rfl ?_) ?_
          · intro vs W n hn hI hG hT hF K hK
            simp only [Rg.putsD, List.getD_cons_zero, List.getD_cons_succ, Act.put, List.setIfInBounds_toArray, List.set_cons_zero, List.set_cons_succ] at hK ⊢
            clear hn
            clear hF hI
            have t13 : vs 13 = .pointer (some ⟨wr.heap.size, 4, none⟩) := hT 13 (by decide)
            obtain ⟨c0, c1, c2, c3, c4⟩ := blk5p (blk_below hG H6.out.2)
            simp only [t13] at hK
            have H := Lib.hid hK
            clear hK hT
            go_simp
            exact H.out _ _ (Below.refl _ _) rfl (fun h => by cases h) trivial
          refine Rg.cons 15 16 rfl (Rg.plain rfl ?_) ?_
          · intro vs W n hn hI hG hT hF K hK
            simp only [Rg.putsD, List.getD_cons_zero, List.getD_cons_succ, Act.put, List.setIfInBounds_toArray, List.set_cons_zero, List.set_cons_succ] at hK ⊢
            clear hn
            clear hF hI
            have t9 : vs 9 = .pointer (some ⟨wr.heap.size, 2, none⟩) := hT 9 (by decide)
            have t10 : vs 10 = .int .i64 x := hT 10 (by decide)
            have t11 : vs 11 = .pointer (some ⟨wr.heap.size, 3, none⟩) := hT 11 (by decide)
            have t12 : vs 12 = .int .i64 y := hT 12 (by decide)
            have t13 : vs 13 = .pointer (some ⟨wr.heap.size, 4, none⟩) := hT 13 (by decide)
            have t14 : vs 14 = .int .i64 q := hT 14 (by decide)
            simp only [t9, t10, t11, t12, t13, t14] at hK
            have H := Lib.hid hK
            clear hK hT
            go_simp
            exact H.out _ _ ((Below.refl _ _).alloc (Nat.le_refl _) _) (show ∃ b : Nat, _ = _ ∧ _ = _ from ⟨_, rfl, blk_new W _ rfl⟩) (fun _ => ⟨W.heap.size, rfl, Nat.le_refl _, by simp⟩) trivial
          refine Rg.cons 16 17 rfl (Rg.plain rfl ?_) ?_
          · intro vs W n hn hI hG hT hF K hK
            simp only [Rg.putsD, List.getD_cons_zero, List.getD_cons_succ, Act.put, List.setIfInBounds_toArray, List.set_cons_zero, List.set_cons_succ] at hK ⊢
            clear hn
            clear hF hI
            have t9 : vs 9 = .pointer (some ⟨wr.heap.size, 2, none⟩) := hT 9 (by decide)
            have t10 : vs 10 = .int .i64 x := hT 10 (by decide)
            have t11 : vs 11 = .pointer (some ⟨wr.heap.size, 3, none⟩) := hT 11 (by decide)
            have t12 : vs 12 = .int .i64 y := hT 12 (by decide)
            have t13 : vs 13 = .pointer (some ⟨wr.heap.size, 4, none⟩) := hT 13 (by decide)
            have t14 : vs 14 = .int .i64 q := hT 14 (by decide)
            have t15 : ∃ b : Nat, vs 15 = .slice (some ⟨b, 0, none⟩) 3 3 ∧ W.heap[b]? = some (.cells #[.int .i64 x, .int .i64 y, .int .i64 q] 3 (0, 0)) := hT 15 (by decide)
            obtain ⟨b8, e8, k8⟩ := t15
            simp only [e8] at hK
            have HG := Lib.hid hG
            have K8 := Lib.hid k8
            clear hG k8
            simp only [t9, t10, t11, t12, t13, t14] at hK
            have H := Lib.hid hK
            clear hK hT
            go_simp
            refine (CN.out _ _ K8.out (H6.out.1.drew.then_below HG.out hzx)).mono ?_
            rintro e w6 ⟨rfl, b6⟩
            exact H.out _ _ b6 rfl (fun h => by cases h) trivial
          refine Rg.cons 17 18 rfl (Rg.plain rfl ?_) ?_
          · intro vs W n hn hI hG hT hF K hK
            simp only [Rg.putsD, List.getD_cons_zero, List.getD_cons_succ, Act.put, List.setIfInBounds_toArray, List.set_cons_zero, List.set_cons_succ] at hK ⊢
            clear hn
            clear hF hI
            have t1 : vs 1 = .pointer (some ⟨wr.heap.size, 0, none⟩) := hT 1 (by decide)
            have t2 : vs 2 = .string nm := hT 2 (by decide)
            have t3 : vs 3 = .string (⟨#[112, 108, 97, 99, 101, 32]⟩ ++ nm) := hT 3 (by decide)
            have t4 : vs 4 = .string (⟨#[112, 108, 97, 99, 101, 32]⟩ ++ nm ++ ⟨#[32]⟩) := hT 4 (by decide)
            have t5 : vs 5 = .pointer (some ⟨wr.heap.size, 1, none⟩) := hT 5 (by decide)
            have t6 : vs 6 = .string pt := hT 6 (by decide)
            have t7 : vs 7 = .string (⟨#[112, 108, 97, 99, 101, 32]⟩ ++ nm ++ ⟨#[32]⟩ ++ pt) := hT 7 (by decide)
            have t8 : vs 8 = .string (⟨#[112, 108, 97, 99, 101, 32]⟩ ++ nm ++ ⟨#[32]⟩ ++ pt ++ ⟨#[32]⟩) := hT 8 (by decide)
            have t9 : vs 9 = .pointer (some ⟨wr.heap.size, 2, none⟩) := hT 9 (by decide)
            have t10 : vs 10 = .int .i64 x := hT 10 (by decide)
            have t11 : vs 11 = .pointer (some ⟨wr.heap.size, 3, none⟩) := hT 11 (by decide)
            have t12 : vs 12 = .int .i64 y := hT 12 (by decide)
            have t13 : vs 13 = .pointer (some ⟨wr.heap.size, 4, none⟩) := hT 13 (by decide)
            have t14 : vs 14 = .int .i64 q := hT 14 (by decide)
            have t15 : ∃ b : Nat, vs 15 = .slice (some ⟨b, 0, none⟩) 3 3 ∧ W.heap[b]? = some (.cells #[.int .i64 x, .int .i64 y, .int .i64 q] 3 (0, 0)) := hT 15 (by decide)
            have t16 : vs 16 = .string J := hT 16 (by decide)
            have hn1 : ¬ 9223372036854775807 < 6 + nm.size + 1 + pt.size + 1 + J.size := by omega
            clear t15
            simp only [t1, t2, t3, t4, t5, t6, t7, t8, t9, t10, t11, t12, t13, t14, t16] at hK
            have H := Lib.hid hK
            clear hK hT
            go_simp
            exact H.out _ _ (Below.refl _ _) rfl (fun h => by cases h) trivial
          refine Rg.cons 18 19 rfl (Rg.plain rfl ?_) ?_
          · intro vs W n hn hI hG hT hF K hK
            simp only [Rg.putsD, List.getD_cons_zero, List.getD_cons_succ, Act.put, List.setIfInBounds_toArray, List.set_cons_zero, List.set_cons_succ] at hK ⊢
            clear hn
            clear hF hI
            have t1 : vs 1 = .pointer (some ⟨wr.heap.size, 0, none⟩) := hT 1 (by decide)
            have t2 : vs 2 = .string nm := hT 2 (by decide)
            have t3 : vs 3 = .string (⟨#[112, 108, 97, 99, 101, 32]⟩ ++ nm) := hT 3 (by decide)
            have t4 : vs 4 = .string (⟨#[112, 108, 97, 99, 101, 32]⟩ ++ nm ++ ⟨#[32]⟩) := hT 4 (by decide)
            have t5 : vs 5 = .pointer (some ⟨wr.heap.size, 1, none⟩) := hT 5 (by decide)
            have t6 : vs 6 = .string pt := hT 6 (by decide)
            have t7 : vs 7 = .string (⟨#[112, 108, 97, 99, 101, 32]⟩ ++ nm ++ ⟨#[32]⟩ ++ pt) := hT 7 (by decide)
            have t8 : vs 8 = .string (⟨#[112, 108, 97, 99, 101, 32]⟩ ++ nm ++ ⟨#[32]⟩ ++ pt ++ ⟨#[32]⟩) := hT 8 (by decide)
            have t9 : vs 9 = .pointer (some ⟨wr.heap.size, 2, none⟩) := hT 9 (by decide)
            have t10 : vs 10 = .int .i64 x := hT 10 (by decide)
            have t11 : vs 11 = .pointer (some ⟨wr.heap.size, 3, none⟩) := hT 11 (by decide)
            have t12 : vs 12 = .int .i64 y := hT 12 (by decide)
            have t13 : vs 13 = .pointer (some ⟨wr.heap.size, 4, none⟩) := hT 13 (by decide)
            have t14 : vs 14 = .int .i64 q := hT 14 (by decide)
            have t15 : ∃ b : Nat, vs 15 = .slice (some ⟨b, 0, none⟩) 3 3 ∧ W.heap[b]? = some (.cells #[.int .i64 x, .int .i64 y, .int .i64 q] 3 (0, 0)) := hT 15 (by decide)
            have t16 : vs 16 = .string J := hT 16 (by decide)
            have t17 : vs 17 = .string (⟨#[112, 108, 97, 99, 101, 32]⟩ ++ nm ++ ⟨#[32]⟩ ++ pt ++ ⟨#[32]⟩ ++ J) := hT 17 (by decide)
            have hn1 : ¬ 9223372036854775807 < 6 + nm.size + 1 + pt.size + 1 + J.size + 1 := by omega
            clear t15
            simp only [t1, t2, t3, t4, t5, t6, t7, t8, t9, t10, t11, t12, t13, t14, t16, t17] at hK
            have H := Lib.hid hK
            clear hK hT
            go_simp
            exact H.out _ _ (Below.refl _ _) rfl (fun h => by cases h) trivial
          exact Rg.nil
        · intro vs W hG hI hT hF
          have t0 : vs 0 = .string T := hT 0 (by decide)
          have t1 : vs 1 = .pointer (some ⟨wr.heap.size, 0, none⟩) := hT 1 (by decide)
          have t2 : vs 2 = .string nm := hT 2 (by decide)
          have t3 : vs 3 = .string (⟨#[112, 108, 97, 99, 101, 32]⟩ ++ nm) := hT 3 (by decide)
          have t4 : vs 4 = .string (⟨#[112, 108, 97, 99, 101, 32]⟩ ++ nm ++ ⟨#[32]⟩) := hT 4 (by decide)
          have t5 : vs 5 = .pointer (some ⟨wr.heap.size, 1, none⟩) := hT 5 (by decide)
          have t6 : vs 6 = .string pt := hT 6 (by decide)
          have t7 : vs 7 = .string (⟨#[112, 108, 97, 99, 101, 32]⟩ ++ nm ++ ⟨#[32]⟩ ++ pt) := hT 7 (by decide)
          have t8 : vs 8 = .string (⟨#[112, 108, 97, 99, 101, 32]⟩ ++ nm ++ ⟨#[32]⟩ ++ pt ++ ⟨#[32]⟩) := hT 8 (by decide)
          have t9 : vs 9 = .pointer (some ⟨wr.heap.size, 2, none⟩) := hT 9 (by decide)
          have t10 : vs 10 = .int .i64 x := hT 10 (by decide)
          have t11 : vs 11 = .pointer (some ⟨wr.heap.size, 3, none⟩) := hT 11 (by decide)
          have t12 : vs 12 = .int .i64 y := hT 12 (by decide)
          have t13 : vs 13 = .pointer (some ⟨wr.heap.size, 4, none⟩) := hT 13 (by decide)
          have t14 : vs 14 = .int .i64 q := hT 14 (by decide)
          have t15 : ∃ b : Nat, vs 15 = .slice (some ⟨b, 0, none⟩) 3 3 ∧ W.heap[b]? = some (.cells #[.int .i64 x, .int .i64 y, .int .i64 q] 3 (0, 0)) := hT 15 (by decide)
          have t16 : vs 16 = .string J := hT 16 (by decide)
          have t17 : vs 17 = .string (⟨#[112, 108, 97, 99, 101, 32]⟩ ++ nm ++ ⟨#[32]⟩ ++ pt ++ ⟨#[32]⟩ ++ J) := hT 17 (by decide)
          have t18 : vs 18 = .string (⟨#[112, 108, 97, 99, 101, 32]⟩ ++ nm ++ ⟨#[32]⟩ ++ pt ++ ⟨#[32]⟩ ++ J ++ ⟨#[10]⟩) := hT 18 (by decide)
          simp only [List.length_cons, List.length_nil, Nat.reduceAdd, List.range, List.range.loop, List.drop_succ_cons, List.drop_zero, Rg.putsD, List.getD_cons_zero, List.getD_cons_succ, Act.put, List.setIfInBounds_toArray, List.set_cons_zero, List.set_cons_succ, t0, t1, t2, t3, t4, t5, t6, t7, t8, t9, t10, t11, t12, t13, t14, t16, t17, t18]
          clear hT t0 t1 t2 t3 t4 t5 t6 t7 t8 t9 t10 t11 t12 t13 t14 t16 t17 t18
          have hn1 : ¬ 9223372036854775807 < T.size + (6 + nm.size + 1 + pt.size + 1 + J.size + 1) := by omega
          have H2 : Hid (Below w.heap.size w W) := H6.out.1.drew.then_below hG hzx
          have hz2 := H2.out.size
          obtain ⟨b8, e8, _⟩ := t15
          simp only [e8]
          clear hF hG hI H6 CN hxl hzx e8
          go_upto_region 6 with (fail)
          rw [HR.out, ← HN.out]
          go_wp2_with fail
          go_roundw
          case rel => exact ⟨k + 1, by omega, by go_num, hz2, rfl, H2⟩
          case measure => simp [intOf]; omega
      · obtain rfl : k = l.length := by omega
        go_wp2_with fail
        go_ret
        exact ⟨by rw [textK_all]; rfl, HS.out⟩
end Go.Proofs.YtalconjnjaffkaaGreatDoor
