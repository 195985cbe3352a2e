/-
  The first turn that makes a tour shorter: the reference.
-/
import Derived.Test.YtbkbjljkfhahbaaTqY
namespace Go.Proofs.Ytbkbjljkfhahbaa
open Go.RowKit
set_option linter.unusedSimpArgs false
set_option linter.unusedVariables false

/-- The first turn, if there is one. -/
def FirstT (s : Int × Int) (l : List (Int × Int)) (o r : List Int) (b : Bool) : Prop :=
  (b = true ∧ ∃ i k, i < k ∧ k < o.length ∧ Calm s l o i k ∧ shw s l o i k = true ∧ r = tl o i k) ∨ (b = false ∧ r = [] ∧ ∀ i k, i < k → k < o.length → shw s l o i k = false)

set_option maxRecDepth 100000 in
set_option maxHeartbeats 16000000 in
theorem shorterRef_any (s : Int × Int) (l : List (Int × Int)) (o : List Int) (hs : okPt s = true) (hl : ∀ p ∈ l, okPt p = true) (hln : l.length ≤ 1000) (hol : o.length ≤ 1000) (ho : ∀ k ∈ o, 0 ≤ k ∧ k < (l.length : Int)) {pv ov : Value} (w : World) (h1 : Reads encP pv l w) (h2 : Reads encN ov o w) :
    Calls Try.prog 37 #[.agg #[.int .i64 s.1, .int .i64 s.2], pv, ov] w fun e w' => ∃ v b r, e = .returned (.tuple #[v, .bool b]) ∧ FirstT s l o r b ∧ w'.ownsRow w.heap.size 3 1 v r.length (r.map (Value.int .i64)) ∧ Below w.heap.size w w' := by
  have HP := Lib.hid h1
  have HO := Lib.hid h2
  have CT := Lib.hid (fun (i k : Nat) (hi : i ≤ k) (hk : k < o.length) (W : World) (h : Reads encN ov o W) => turnedRef_any o hol hi hk W h)
  have CL := Lib.hid (fun (o' : List Int) (v : Value) (W : World) (hol : o'.length ≤ 1000) (ho : ∀ k ∈ o', 0 ≤ k ∧ k < (l.length : Int)) (h1 : Reads encP pv l W) (h2 : Reads encN v o' W) => lengthOf_any s l o' hs hl hln hol ho W h1 h2)
  have HM := Lib.hid (fun i k x (h : x ∈ tl o i k) => ho x (tl_mem h))
  have HOO := Lib.hid ho
  obtain ⟨s1, s2⟩ := s
  obtain ⟨Ao, co, rfl, _⟩ := h2
  clear ho hs hl h1
  dsimp only at *
  have H0 : Hid (Below w.heap.size w (w.alloc (.cells #[.int .i64 s1, .int .i64 s2] 27)) ∧ (w.alloc (.cells #[.int .i64 s1, .int .i64 s2] 27)).heap[w.heap.size]? = some (.cells #[.int .i64 s1, .int .i64 s2] 27 (0, 0))) := ⟨(Below.refl _ _).alloc (Nat.le_refl _) _, blk_new w _ rfl⟩
  go_enter Try.func37, Try.ntmps37
  go_upto_region 1 with (fail)
  generalize w.alloc (.cells #[.int .i64 s1, .int .i64 s2] 27) = w0 at *
  go_wp2_with fail
  go_loopw [13] (fun ii wr => ∃ i : Nat, i ≤ o.length ∧ ii = .int .i64 i ∧ Hid (Calm (s1, s2) l o i (i + 1)) ∧ Hid (Below w.heap.size w wr ∧ wr.heap[w.heap.size]? = some (.cells #[.int .i64 s1, .int .i64 s2] 27 (0, 0)))) (fun ii _ => o.length - (intOf ii).toNat)
  case atStart => exact ⟨0, by omega, rfl, Calm.zero _ _ _, H0⟩
  case round =>
    obtain ⟨i, hi, rfl, HC, HS⟩ := hrel
    by_cases hlt : i < o.length
    · have i2 : (i : Int) < (o.length : Int) := by omega
      obtain ⟨wo, rfl⟩ : ∃ wo : World, wo = wr := ⟨_, rfl⟩
      clear H0
      go_upto_region 5 with (fail)
      go_loopw [9] (fun kk wr => ∃ k : Nat, i + 1 ≤ k ∧ k ≤ o.length ∧ kk = .int .i64 k ∧ Hid (Calm (s1, s2) l o i k) ∧ Hid (Below w.heap.size w wr ∧ wr.heap[w.heap.size]? = some (.cells #[.int .i64 s1, .int .i64 s2] 27 (0, 0)))) (fun kk _ => o.length - (intOf kk).toNat)
      case atStart => exact ⟨i + 1, by omega, by omega, by go_num, HC, HS⟩
      case round =>
        obtain ⟨k, hk1, hk2, rfl, HC2, HS2⟩ := hrel
        clear HC HS
        by_cases hltk : k < o.length
        · have k2 : (k : Int) < (o.length : Int) := by omega
          go_wp2_with fail
          refine (CT.out i k (by omega) hltk _ (HO.out.below HS2.out.1)).mono ?_
          rintro e w1 ⟨v1, rfl, o1, b1⟩
          have hnl := tl_len (by omega : i ≤ k) hltk
          have HR1 : Hid (Reads encN v1 (tl o i k) w1) := readsN_own' o1 hnl.symm
          have HS3 : Hid (Below w.heap.size w w1 ∧ w1.heap[w.heap.size]? = some (.cells #[.int .i64 s1, .int .i64 s2] 27 (0, 0)) ∧ w1.ownsRow w.heap.size 3 1 v1 (tl o i k).length ((tl o i k).map (Value.int .i64))) := ⟨HS2.out.1.then_below b1 HS2.out.1.size, blk_below b1 HS2.out.2, by rw [hnl]; exact own_mono o1 HS2.out.1.size⟩
          obtain ⟨A1, c1, rfl, _⟩ := own_form o1
          have HIF := Lib.hid (shw_iff (s1, s2) l o (by omega : i ≤ k) hltk)
          have HN := Lib.hid hnl
          have CL1 := Lib.hid (fun (W : World) (h1 : Reads encP pv l W) (h2 : Reads encN (.slice A1 o.length c1) (tl o i k) W) => CL.out (tl o i k) _ W (by rw [hnl]; exact hol) (HM.out i k) h1 h2)
          have CL2 := Lib.hid (fun (W : World) (h1 : Reads encP pv l W) (h2 : Reads encN (.slice Ao o.length co) o W) => CL.out o _ W hol HOO.out h1 h2)
          clear o1 b1 HS2 CT hnl
          generalize lenOf (s1, s2) l (tl o i k) = x1 at *
          generalize lenOf (s1, s2) l o = x2 at *
          go_wp2_with fail
          refine Rg.rgL (fun a b => Below a.heap.size a b)
            [(fun vs u => vs 0 = .agg #[.int .i64 s1, .int .i64 s2]), (fun vs u => vs 1 = pv), (fun vs u => vs 2 = .slice A1 o.length c1), (fun vs u => vs 3 = .int .i64 x1), (fun vs u => vs 4 = .agg #[.int .i64 s1, .int .i64 s2]), (fun vs u => vs 5 = pv), (fun vs u => vs 6 = .slice Ao o.length co)]
            [[], [], [], [0, 1, 2], [], [], []] [some 28, some 29, some 30, some 31, some 32, some 33, some 34, some 35, some 36] [] (fun _ _ => True) [[], [], [], [0, 1, 2], [], [], [], [0, 1, 2, 3, 4, 5, 6], [0, 1, 2, 3, 4, 5, 6, 7]]
            (by kernel_rfl) (by decide) (by kernel_rfl) (by kernel_rfl) (by kernel_rfl) (by kernel_rfl) (by kernel_rfl) (fun _ => Below.refl _ _) (fun _ _ _ h k => h.ext k) (fun _ _ h => h.size) ?_ trivial ?_ ?_
          · intro t ht vs w w' h hE
            simp only [List.mem_cons, List.not_mem_nil, or_false] at ht
            rcases ht with rfl | rfl | rfl | rfl | rfl | rfl | rfl
            · exact h
            · exact h
            · exact h
            · exact h
            · exact h
            · exact h
            · exact h
          ·
            refine Rg.cons 0 1 rfl (Rg.plain rfl ?_) ?_
            · intro vs W n hn hI hG hT hF K hK
              simp only [Rg.putsD, List.getD_cons_zero, List.getD_cons_succ, Act.put, List.setIfInBounds_toArray, List.set_cons_zero, List.set_cons_succ] at hK ⊢
              clear hn
              clear hF hI
              obtain ⟨c0, c00, _, _⟩ := blk2 (blk_below hG HS3.out.2.1)
              have hgl := lt_of_blk (blk_below hG HS3.out.2.1)
              have H := Lib.hid hK
              clear hK hT
              go_simp
              exact H.out _ _ (Below.refl _ _) rfl (fun h => by cases h) trivial
            refine Rg.cons 1 2 rfl (Rg.plain rfl ?_) ?_
            · intro vs W n hn hI hG hT hF K hK
              simp only [Rg.putsD, List.getD_cons_zero, List.getD_cons_succ, Act.put, List.setIfInBounds_toArray, List.set_cons_zero, List.set_cons_succ] at hK ⊢
              clear hn
              clear hF hI
              have H := Lib.hid hK
              clear hK hT
              go_simp
              exact H.out _ _ (Below.refl _ _) rfl (fun h => by cases h) trivial
            refine Rg.cons 2 3 rfl (Rg.plain rfl ?_) ?_
            · intro vs W n hn hI hG hT hF K hK
              simp only [Rg.putsD, List.getD_cons_zero, List.getD_cons_succ, Act.put, List.setIfInBounds_toArray, List.set_cons_zero, List.set_cons_succ] at hK ⊢
              clear hn
              clear hF hI
              have H := Lib.hid hK
              clear hK hT
              go_simp
              exact H.out _ _ (Below.refl _ _) rfl (fun h => by cases h) trivial
            refine Rg.cons 3 4 rfl (Rg.plain rfl ?_) ?_
            · intro vs W n hn hI hG hT hF K hK
              simp only [Rg.putsD, List.getD_cons_zero, List.getD_cons_succ, Act.put, List.setIfInBounds_toArray, List.set_cons_zero, List.set_cons_succ] at hK ⊢
              clear hn
              clear hF hI
              have t0 : vs 0 = .agg #[.int .i64 s1, .int .i64 s2] := hT 0 (by decide)
              have t1 : vs 1 = pv := hT 1 (by decide)
              have t2 : vs 2 = .slice A1 o.length c1 := hT 2 (by decide)
              have HG := Lib.hid hG
              clear hG
              simp only [t0, t1, t2] at hK
              have H := Lib.hid hK
              clear hK hT
              go_simp
              refine (CL1.out _ (HP.out.below (HS3.out.1.drew.then_below HG.out (by have := HS3.out.1.size; show _ ≤ w1.heap.size; omega))) (HR1.out.below ((Below.refl _ _).drew.trans HG.out))).mono ?_
              rintro e w6 ⟨rfl, b6⟩
              exact H.out _ _ b6 rfl (fun h => by cases h) trivial
            refine Rg.cons 4 5 rfl (Rg.plain rfl ?_) ?_
            · intro vs W n hn hI hG hT hF K hK
              simp only [Rg.putsD, List.getD_cons_zero, List.getD_cons_succ, Act.put, List.setIfInBounds_toArray, List.set_cons_zero, List.set_cons_succ] at hK ⊢
              clear hn
              clear hF hI
              obtain ⟨c0, c00, _, _⟩ := blk2 (blk_below hG HS3.out.2.1)
              have hgl := lt_of_blk (blk_below hG HS3.out.2.1)
              have H := Lib.hid hK
              clear hK hT
              go_simp
              exact H.out _ _ (Below.refl _ _) rfl (fun h => by cases h) trivial
            refine Rg.cons 5 6 rfl (Rg.plain rfl ?_) ?_
            · intro vs W n hn hI hG hT hF K hK
              simp only [Rg.putsD, List.getD_cons_zero, List.getD_cons_succ, Act.put, List.setIfInBounds_toArray, List.set_cons_zero, List.set_cons_succ] at hK ⊢
              clear hn
              clear hF hI
              have H := Lib.hid hK
              clear hK hT
              go_simp
              exact H.out _ _ (Below.refl _ _) rfl (fun h => by cases h) trivial
            refine Rg.cons 6 7 rfl (Rg.plain rfl ?_) ?_
            · intro vs W n hn hI hG hT hF K hK
              simp only [Rg.putsD, List.getD_cons_zero, List.getD_cons_succ, Act.put, List.setIfInBounds_toArray, List.set_cons_zero, List.set_cons_succ] at hK ⊢
              clear hn
              clear hF hI
              have H := Lib.hid hK
              clear hK hT
              go_simp
              exact H.out _ _ (Below.refl _ _) rfl (fun h => by cases h) trivial
            exact Rg.nil
          · intro vs W hG hI hT hF
            have t0 : vs 0 = .agg #[.int .i64 s1, .int .i64 s2] := hT 0 (by decide)
            have t1 : vs 1 = pv := hT 1 (by decide)
            have t2 : vs 2 = .slice A1 o.length c1 := hT 2 (by decide)
            have t3 : vs 3 = .int .i64 x1 := hT 3 (by decide)
            have t4 : vs 4 = .agg #[.int .i64 s1, .int .i64 s2] := hT 4 (by decide)
            have t5 : vs 5 = pv := hT 5 (by decide)
            have t6 : vs 6 = .slice Ao o.length co := hT 6 (by decide)
            simp only [List.length_cons, List.length_nil, Nat.reduceAdd, List.range, List.range.loop, List.drop_succ_cons, List.drop_zero, Rg.putsD, List.getD_cons_zero, List.getD_cons_succ, Act.put, List.setIfInBounds_toArray, List.set_cons_zero, List.set_cons_succ, t0, t1, t2, t3, t4, t5, t6]
            clear hT t0 t1 t2 t3 t4 t5 t6
            have H4 : Hid (Below w.heap.size w W ∧ W.heap[w.heap.size]? = some (.cells #[.int .i64 s1, .int .i64 s2] 27 (0, 0)) ∧ W.ownsRow w.heap.size 3 1 (.slice A1 o.length c1) (tl o i k).length ((tl o i k).map (Value.int .i64))) := ⟨HS3.out.1.drew.then_below hG (by have := HS3.out.1.size; show _ ≤ w1.heap.size; omega), blk_below (w := W) (a := w1.drew) hG HS3.out.2.1, own_below (w := w1.drew) HS3.out.2.2.drew hG⟩
            clear hF hI hG HS3 HR1 CL1
            go_wp2_with fail
            refine (CL2.out _ (HP.out.below H4.out.1) (HO.out.below H4.out.1)).mono ?_
            rintro e w6 ⟨rfl, b6⟩
            have H5 : Hid (Below w.heap.size w w6 ∧ w6.heap[w.heap.size]? = some (.cells #[.int .i64 s1, .int .i64 s2] 27 (0, 0)) ∧ w6.ownsRow w.heap.size 3 1 (.slice A1 o.length c1) (tl o i k).length ((tl o i k).map (Value.int .i64))) := ⟨H4.out.1.then_below b6 H4.out.1.size, blk_below b6 H4.out.2.1, own_below H4.out.2.2 b6⟩
            clear b6 H4 CL2
            by_cases hd : x1 < x2
            rotate_left
            · have HE : Hid (shw (s1, s2) l o i k = false) := HIF.out.trans (decide_eq_false hd)
              clear HIF
              go_wp2_with fail
              go_roundw
              case rel => exact ⟨k + 1, by omega, by omega, by go_num, HC2.out.next HE.out, H5.out.1, H5.out.2.1⟩
              case measure => simp [intOf]; omega
            · have HE : Hid (shw (s1, s2) l o i k = true) := HIF.out.trans (decide_eq_true hd)
              clear HIF
              go_wp2_with fail
              refine bodyPost_ret (v := .tuple #[.slice A1 o.length c1, .bool true]) (by unfold results; simp only [Try.results37]; go_simp) rfl ⟨_, _, tl o i k, rfl, .inl ⟨rfl, i, k, by omega, hltk, HC2.out, HE.out, rfl⟩, H5.out.2.2, H5.out.1⟩
        · obtain rfl : k = o.length := by omega
          go_wp2_with fail
          go_roundw
          case rel => exact ⟨i + 1, by omega, by go_num, HC2.out.down (Nat.le_refl _), HS2⟩
          case measure => simp [intOf]; omega
    · obtain rfl : i = o.length := by omega
      go_wp2_with fail
      refine bodyPost_ret (v := .tuple #[.slice none 0 0, .bool false]) (by unfold results; simp only [Try.results37]; go_simp) rfl ⟨_, _, [], rfl, .inr ⟨rfl, rfl, fun a b h1 h2 => HC.out a b h1 h2 (.inl (by omega))⟩, World.ownsRow_nil _ _ _ _, HS.out.1⟩
end Go.Proofs.Ytbkbjljkfhahbaa
