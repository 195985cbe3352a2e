/-
  The order of slots that can be taken: what is compared.
-/
import Derived.Test.YtjmjmijjdgolfaaSeG
import Derived.Test.YtjmjmijjdgolfaaRg
import Derived.Test.YtjmjmijjdgolfaaShelfC
import Derived.Deep.DrawnRows
import Derived.Shelf.SlSortCmp.NoneTotal
namespace Go.Proofs.Ytjmjmijjdgolfaa
open Go.RowKit Go.Sort Go.Lib
set_option linter.unusedSimpArgs false
set_option linter.unusedVariables false

/-- Draws, and new blocks. -/
def Gr (a b : World) : Prop := ∃ q os, b = grow (a.drewN q) os
theorem Gr.refl (a : World) : Gr a a := ⟨0, #[], by rw [grow_empty]; rfl⟩
theorem grow_drewN (w : World) (os : Array Obj) (q : Nat) : (grow w os).drewN q = grow (w.drewN q) os := rfl
theorem drewN_drewN (w : World) (a b : Nat) : (w.drewN a).drewN b = w.drewN (a + b) := by simp [World.drewN, Nat.add_assoc]
theorem Gr.trans {a b c : World} (h : Gr a b) (k : Gr b c) : Gr a c := by
  obtain ⟨q, os, rfl⟩ := h
  obtain ⟨q', os', rfl⟩ := k
  exact ⟨q + q', os ++ os', by rw [grow_drewN, drewN_drewN, grow_grow]⟩
theorem Gr.alloc {a b : World} (h : Gr a b) (o : Obj) : Gr a (b.alloc o) := h.trans ⟨0, #[o], by rw [alloc_eq_grow]; rfl⟩
theorem Gr.drew {a b : World} (h : Gr a b) : Gr a b.drew := h.trans ⟨1, #[], by rw [grow_empty]; rfl⟩
theorem Gr.below {a b : World} (h : Gr a b) : Below a.heap.size a b := by
  obtain ⟨q, os, rfl⟩ := h
  refine ⟨rfl, rfl, rfl, by show a.heap.size ≤ (a.heap ++ os).size; rw [Array.size_append]; omega, fun i hi => heap_grow_old (a.drewN q) os hi⟩
theorem Gr.size {a b : World} (h : Gr a b) : a.heap.size ≤ b.heap.size := h.below.size

def orI (a b : Int) : Int := if a = 0 then b else a
theorem orL2 (a b : Int) : errsL [a, b] = orI a b := by
  unfold orI errsL errsL
  by_cases h : a = 0
  · rw [if_pos h, if_pos h]
    by_cases h2 : b = 0
    · rw [if_pos h2, h2]; rfl
    · rw [if_neg h2]
  · rw [if_neg h, if_neg h]
set_option maxHeartbeats 1000000 in
theorem cmpOr_any (l : List Int) (hl : l.length ≤ 1000) (g c : Nat) (w : World) (h : LineAt w g (l.map (Value.int .i64))) :
    Calls Try.prog 116 #[.slice (some ⟨g, 0, none⟩) l.length c] w fun e w' => e = .returned (.int .i64 (errsL l)) ∧ w = w' := by
  have HL := Lib.hid h
  clear h
  go_enter Try.func116, Try.ntmps116
  go_wp2_with fail
  go_loopw [8] (fun kk wr => ∃ k : Nat, k ≤ l.length ∧ kk = .int .i64 k ∧ w = wr ∧ Hid (errsL l = errsL (l.drop k))) (fun kk _ => l.length - (intOf kk).toNat)
  case atStart => exact ⟨0, by omega, rfl, rfl, rfl⟩
  case round =>
    obtain ⟨k, hk, rfl, rfl, HO⟩ := hrel
    by_cases hlt : k < l.length
    · obtain ⟨x, hx⟩ : ∃ x, l[k] = x := ⟨_, rfl⟩
      have hc := HL.out.2 k (.int .i64 x) (by simp [hlt, hx])
      have hgl := HL.out.1
      have hD : errsL l = if x = 0 then errsL (l.drop (k + 1)) else x := HO.out.trans (by rw [drop_at l hlt, hx]; rfl)
      have HD := Lib.hid hD
      have i1 : (0 : Int) ≤ (k : Int) := by omega
      have i2 : (k : Int) < (l.length : Int) := by omega
      clear hD hx HO
      cases h0 : (x == 0)
      · have hne : ¬ x = 0 := by simpa using h0
        have HF : Hid (errsL l = x) := HD.out.trans (if_neg hne)
        have h1 : (x != 0) = true := by simpa using hne
        go_wp2_with fail
        go_ret
        exact ⟨ret_int HF.out.symm, rfl⟩
      · obtain rfl : x = 0 := by simpa using h0
        have HF : Hid (errsL l = errsL (l.drop (k + 1))) := HD.out.trans (if_pos rfl)
        go_wp2_with fail
        go_roundw
        case rel => exact ⟨k + 1, by omega, by go_num, by trivial, HF⟩
        case measure => simp [intOf]; omega
    · have HF : Hid (errsL l = 0) := HO.out.trans (by rw [List.drop_eq_nil_of_le (by omega)]; rfl)
      go_wp2_with fail
      go_ret
      exact ⟨ret_int HF.out.symm, rfl⟩

theorem lineAt_new (w : World) (cs : List Value) (t : TypeId) : LineAt (w.alloc (.cells cs.toArray t)) w.heap.size cs := by
  refine ⟨by simp, fun j u hu => ?_⟩
  rw [cell_of_blk (blk_new w _ rfl)]
  simpa using hu
/-- What the closure compares. -/
def cmpI (s : List ByteArray) (wh : List Int) (a b : Nat) : Int := orI (compareInt (wh.getD b 0) (wh.getD a 0)) (compareBytes (bt (nth s b)) (bt (nth s a)))

set_option maxHeartbeats 4000000 in
theorem roomC_any {s : List ByteArray} {wh : List Int} {vb sb gw gs cs z : Nat} (hn : z = s.length) (hwh : wh.length = s.length) (hsl : s.length ≤ 1000000) {W0 : World}
    (hv : W0.heap[vb]? = some (.cells #[.slice (some ⟨gw, 0, none⟩) z z] 22 (0, 0))) (hvr : LineAt W0 gw (wh.map (Value.int .i64)))
    (hs : W0.heap[sb]? = some (.cells #[.slice (some ⟨gs, 0, none⟩) z cs] 51 (0, 0))) (hsr : LineAt W0 gs (s.flatMap encS)) (a b : Nat) (ha : a < z) (hb : b < z) :
    Calls Try.prog 115 #[.int .i64 a, .int .i64 b, .pointer (some ⟨vb, 0, none⟩), .pointer (some ⟨sb, 0, none⟩)] W0 fun e w' => e = .returned (.int .i64 (cmpI s wh a b)) ∧ Gr W0 w' := by
  have HE : Hid (cmpI s wh a b = orI (compareInt (wh.getD b 0) (wh.getD a 0)) (compareBytes (bt (nth s b)) (bt (nth s a)))) := rfl
  have wcell : ∀ j, j < z → W0.cell? ⟨gw, j, none⟩ = some (.int .i64 (wh.getD j 0)) := fun j hj => hvr.2 j _ (by rw [List.getElem?_map, List.getD_eq_getElem?_getD, List.getElem?_eq_getElem (show j < wh.length by omega)]; rfl)
  have scell : ∀ j, j < z → W0.cell? ⟨gs, j, none⟩ = some (.string (nth s j)) := fun j hj => by
    have := row_strg hsr (show j < s.length by omega)
    rw [this, nth_at (show j < s.length by omega)]
  have HQ := Lib.hid (And.intro hv (And.intro hs (And.intro (wcell a ha) (And.intro (wcell b hb) (And.intro (scell a ha) (scell b hb))))))
  have hgw : gw < W0.heap.size := hvr.1
  have hgs : gs < W0.heap.size := hsr.1
  have hvlt := lt_of_blk hv
  have hslt := lt_of_blk hs
  have HC := Lib.hid (fun x y W => Try.cmp_Compare_int x y W)
  have HS := Lib.hid (fun x y W => Try.strings_Compare x y W)
  clear wcell scell hv hvr hs hsr
  rw [HE.out]
  clear HE
  generalize wh.getD a 0 = wa at *
  generalize wh.getD b 0 = wb at *
  generalize nth s a = sa at *
  generalize nth s b = sbb at *
  have i1 : (0 : Int) ≤ (a : Int) := by omega
  have i2 : (a : Int) < (z : Int) := by omega
  have i3 : (0 : Int) ≤ (b : Int) := by omega
  have i4 : (b : Int) < (z : Int) := by omega
  clear hn hwh
  go_enter Try.func115, Try.ntmps115
  go_wp2_with fail
  refine Rg.rgL Gr
    [(fun vs u => vs 0 = .slice (some ⟨gw, 0, none⟩) z z), (fun vs u => vs 1 = .int .i64 b), (fun vs u => vs 2 = .pointer (some ⟨gw, b, none⟩)), (fun vs u => vs 3 = .int .i64 wb), (fun vs u => vs 4 = .slice (some ⟨gw, 0, none⟩) z z), (fun vs u => vs 5 = .int .i64 a), (fun vs u => vs 6 = .pointer (some ⟨gw, a, none⟩)), (fun vs u => vs 7 = .int .i64 wa), (fun vs u => vs 8 = .int .i64 (compareInt wb wa)), (fun vs u => vs 9 = .slice (some ⟨gs, 0, none⟩) z cs), (fun vs u => vs 10 = .int .i64 b), (fun vs u => vs 11 = .pointer (some ⟨gs, b, none⟩)), (fun vs u => vs 12 = .string sbb), (fun vs u => vs 13 = .slice (some ⟨gs, 0, none⟩) z cs), (fun vs u => vs 14 = .int .i64 a), (fun vs u => vs 15 = .pointer (some ⟨gs, a, none⟩)), (fun vs u => vs 16 = .string sa)]
    [[], [], [0, 1], [0, 1, 2], [], [], [4, 5], [4, 5, 6], [0, 1, 2, 3, 4, 5, 6, 7], [], [], [9, 10], [9, 10, 11], [], [], [13, 14], [13, 14, 15]] [some 7, some 8, some 9, some 10, some 11, some 12, some 13, some 14, some 15, some 16, some 17, some 18, some 19, some 20, some 21, some 22, some 23, some 24, some 25, some 26, some 6] [] (fun _ _ => True) [[], [], [0, 1], [0, 1, 2], [], [], [4, 5], [4, 5, 6], [0, 1, 2, 3, 4, 5, 6, 7], [], [], [9, 10], [9, 10, 11], [], [], [13, 14], [13, 14, 15], [0, 1, 2, 3, 4, 5, 6, 7, 8, 9, 10, 11, 12, 13, 14, 15, 16], [0, 1, 2, 3, 4, 5, 6, 7, 8, 9, 10, 11, 12, 13, 14, 15, 16, 17], [0, 1, 2, 3, 4, 5, 6, 7, 8, 9, 10, 11, 12, 13, 14, 15, 16, 17, 18], [0, 1, 2, 3, 4, 5, 6, 7, 8, 9, 10, 11, 12, 13, 14, 15, 16, 17, 18, 19]]
    (by kernel_rfl) (by decide) (by kernel_rfl) (by kernel_rfl) (by kernel_rfl) (by kernel_rfl) (by kernel_rfl) (fun _ => Gr.refl _) (fun _ _ _ h k => h.trans k) (fun _ _ h => h.size) ?_ trivial ?_ ?_
  · intro t ht vs w w' h hE
    simp only [List.mem_cons, List.not_mem_nil, or_false] at ht
    rcases ht with rfl | rfl | rfl | rfl | rfl | rfl | rfl | rfl | rfl | rfl | rfl | rfl | rfl | rfl | rfl | rfl | rfl
    · exact h
    · exact h
    · exact h
    · exact h
    · exact h
    · exact h
    · exact h
    · exact h
    · exact h
    · exact h
    · exact h
    · exact h
    · exact h
    · exact h
    · exact h
    · exact h
    · exact h
  ·
    refine Rg.cons 0 1 rfl (Rg.plain rfl ?_) ?_
    · intro vs W n hn hI hG hT hF K hK
      simp only [Rg.putsD, List.getD_cons_zero, List.getD_cons_succ, Act.put, List.setIfInBounds_toArray, List.set_cons_zero, List.set_cons_succ] at hK ⊢
      clear hn
      clear hF hI
      have c0 := blk_cell0 (blk_below hG.below HQ.out.1)
      have H := Lib.hid hK
      clear hK hT
      go_simp
      exact H.out _ _ (Gr.refl _) rfl (fun h => by cases h) trivial
    refine Rg.cons 1 2 rfl (Rg.plain rfl ?_) ?_
    · intro vs W n hn hI hG hT hF K hK
      simp only [Rg.putsD, List.getD_cons_zero, List.getD_cons_succ, Act.put, List.setIfInBounds_toArray, List.set_cons_zero, List.set_cons_succ] at hK ⊢
      clear hn
      clear hF hI
      have H := Lib.hid hK
      clear hK hT
      go_simp
      exact H.out _ _ (Gr.refl _) rfl (fun h => by cases h) trivial
    refine Rg.cons 2 3 rfl (Rg.plain rfl ?_) ?_
    · intro vs W n hn hI hG hT hF K hK
      simp only [Rg.putsD, List.getD_cons_zero, List.getD_cons_succ, Act.put, List.setIfInBounds_toArray, List.set_cons_zero, List.set_cons_succ] at hK ⊢
      clear hn
      clear hF hI
      have t0 : vs 0 = .slice (some ⟨gw, 0, none⟩) z z := hT 0 (by decide)
      have t1 : vs 1 = .int .i64 b := hT 1 (by decide)
      simp only [t0, t1] at hK
      have H := Lib.hid hK
      clear hK hT
      go_simp
      exact H.out _ _ (Gr.refl _) rfl (fun h => by cases h) trivial
    refine Rg.cons 3 4 rfl (Rg.plain rfl ?_) ?_
    · intro vs W n hn hI hG hT hF K hK
      simp only [Rg.putsD, List.getD_cons_zero, List.getD_cons_succ, Act.put, List.setIfInBounds_toArray, List.set_cons_zero, List.set_cons_succ] at hK ⊢
      clear hn
      clear hF hI
      have t0 : vs 0 = .slice (some ⟨gw, 0, none⟩) z z := hT 0 (by decide)
      have t1 : vs 1 = .int .i64 b := hT 1 (by decide)
      have t2 : vs 2 = .pointer (some ⟨gw, b, none⟩) := hT 2 (by decide)
      have c0 := (hG.below.cell (p := ⟨gw, b, none⟩) hgw).trans HQ.out.2.2.2.1
      simp only [t0, t1, t2] at hK
      have H := Lib.hid hK
      clear hK hT
      go_simp
      exact H.out _ _ (Gr.refl _) rfl (fun h => by cases h) trivial
    refine Rg.cons 4 5 rfl (Rg.plain rfl ?_) ?_
    · intro vs W n hn hI hG hT hF K hK
      simp only [Rg.putsD, List.getD_cons_zero, List.getD_cons_succ, Act.put, List.setIfInBounds_toArray, List.set_cons_zero, List.set_cons_succ] at hK ⊢
      clear hn
      clear hF hI
      have c0 := blk_cell0 (blk_below hG.below HQ.out.1)
      have H := Lib.hid hK
      clear hK hT
      go_simp
      exact H.out _ _ (Gr.refl _) rfl (fun h => by cases h) trivial
    refine Rg.cons 5 6 rfl (Rg.plain rfl ?_) ?_
    · intro vs W n hn hI hG hT hF K hK
      simp only [Rg.putsD, List.getD_cons_zero, List.getD_cons_succ, Act.put, List.setIfInBounds_toArray, List.set_cons_zero, List.set_cons_succ] at hK ⊢
      clear hn
      clear hF hI
      have H := Lib.hid hK
      clear hK hT
      go_simp
      exact H.out _ _ (Gr.refl _) rfl (fun h => by cases h) trivial
    refine Rg.cons 6 7 rfl (Rg.plain rfl ?_) ?_
    · intro vs W n hn hI hG hT hF K hK
      simp only [Rg.putsD, List.getD_cons_zero, List.getD_cons_succ, Act.put, List.setIfInBounds_toArray, List.set_cons_zero, List.set_cons_succ] at hK ⊢
      clear hn
      clear hF hI
      have t4 : vs 4 = .slice (some ⟨gw, 0, none⟩) z z := hT 4 (by decide)
      have t5 : vs 5 = .int .i64 a := hT 5 (by decide)
      simp only [t4, t5] at hK
      have H := Lib.hid hK
      clear hK hT
      go_simp
      exact H.out _ _ (Gr.refl _) rfl (fun h => by cases h) trivial
    refine Rg.cons 7 8 rfl (Rg.plain rfl ?_) ?_
    · intro vs W n hn hI hG hT hF K hK
      simp only [Rg.putsD, List.getD_cons_zero, List.getD_cons_succ, Act.put, List.setIfInBounds_toArray, List.set_cons_zero, List.set_cons_succ] at hK ⊢
      clear hn
      clear hF hI
      have t4 : vs 4 = .slice (some ⟨gw, 0, none⟩) z z := hT 4 (by decide)
      have t5 : vs 5 = .int .i64 a := hT 5 (by decide)
      have t6 : vs 6 = .pointer (some ⟨gw, a, none⟩) := hT 6 (by decide)
      have c0 := (hG.below.cell (p := ⟨gw, a, none⟩) hgw).trans HQ.out.2.2.1
      simp only [t4, t5, t6] at hK
      have H := Lib.hid hK
      clear hK hT
      go_simp
      exact H.out _ _ (Gr.refl _) rfl (fun h => by cases h) trivial
    refine Rg.cons 8 9 rfl (Rg.plain rfl ?_) ?_
    · intro vs W n hn hI hG hT hF K hK
      simp only [Rg.putsD, List.getD_cons_zero, List.getD_cons_succ, Act.put, List.setIfInBounds_toArray, List.set_cons_zero, List.set_cons_succ] at hK ⊢
      clear hn
      clear hF hI
      have t0 : vs 0 = .slice (some ⟨gw, 0, none⟩) z z := hT 0 (by decide)
      have t1 : vs 1 = .int .i64 b := hT 1 (by decide)
      have t2 : vs 2 = .pointer (some ⟨gw, b, none⟩) := hT 2 (by decide)
      have t3 : vs 3 = .int .i64 wb := hT 3 (by decide)
      have t4 : vs 4 = .slice (some ⟨gw, 0, none⟩) z z := hT 4 (by decide)
      have t5 : vs 5 = .int .i64 a := hT 5 (by decide)
      have t6 : vs 6 = .pointer (some ⟨gw, a, none⟩) := hT 6 (by decide)
      have t7 : vs 7 = .int .i64 wa := hT 7 (by decide)
      simp only [t0, t1, t2, t3, t4, t5, t6, t7] at hK
      have H := Lib.hid hK
      clear hK hT
      go_simp
      refine (HC.out wb wa _).mono ?_
      rintro e w1 ⟨rfl, rfl⟩
      exact H.out _ _ (Gr.refl _) rfl (fun h => by cases h) trivial
    refine Rg.cons 9 10 rfl (Rg.plain rfl ?_) ?_
    · intro vs W n hn hI hG hT hF K hK
      simp only [Rg.putsD, List.getD_cons_zero, List.getD_cons_succ, Act.put, List.setIfInBounds_toArray, List.set_cons_zero, List.set_cons_succ] at hK ⊢
      clear hn
      clear hF hI
      have c0 := blk_cell0 (blk_below hG.below HQ.out.2.1)
      have H := Lib.hid hK
      clear hK hT
      go_simp
      exact H.out _ _ (Gr.refl _) rfl (fun h => by cases h) trivial
    refine Rg.cons 10 11 rfl (Rg.plain rfl ?_) ?_
    · intro vs W n hn hI hG hT hF K hK
      simp only [Rg.putsD, List.getD_cons_zero, List.getD_cons_succ, Act.put, List.setIfInBounds_toArray, List.set_cons_zero, List.set_cons_succ] at hK ⊢
      clear hn
      clear hF hI
      have H := Lib.hid hK
      clear hK hT
      go_simp
      exact H.out _ _ (Gr.refl _) rfl (fun h => by cases h) trivial
    refine Rg.cons 11 12 rfl (Rg.plain rfl ?_) ?_
    · intro vs W n hn hI hG hT hF K hK
      simp only [Rg.putsD, List.getD_cons_zero, List.getD_cons_succ, Act.put, List.setIfInBounds_toArray, List.set_cons_zero, List.set_cons_succ] at hK ⊢
      clear hn
      clear hF hI
      have t9 : vs 9 = .slice (some ⟨gs, 0, none⟩) z cs := hT 9 (by decide)
      have t10 : vs 10 = .int .i64 b := hT 10 (by decide)
      simp only [t9, t10] at hK
      have H := Lib.hid hK
      clear hK hT
      go_simp
      exact H.out _ _ (Gr.refl _) rfl (fun h => by cases h) trivial
    refine Rg.cons 12 13 rfl (Rg.plain rfl ?_) ?_
    · intro vs W n hn hI hG hT hF K hK
      simp only [Rg.putsD, List.getD_cons_zero, List.getD_cons_succ, Act.put, List.setIfInBounds_toArray, List.set_cons_zero, List.set_cons_succ] at hK ⊢
      clear hn
      clear hF hI
      have t9 : vs 9 = .slice (some ⟨gs, 0, none⟩) z cs := hT 9 (by decide)
      have t10 : vs 10 = .int .i64 b := hT 10 (by decide)
      have t11 : vs 11 = .pointer (some ⟨gs, b, none⟩) := hT 11 (by decide)
      have c0 := (hG.below.cell (p := ⟨gs, b, none⟩) hgs).trans HQ.out.2.2.2.2.2
      simp only [t9, t10, t11] at hK
      have H := Lib.hid hK
      clear hK hT
      go_simp
      exact H.out _ _ (Gr.refl _) rfl (fun h => by cases h) trivial
    refine Rg.cons 13 14 rfl (Rg.plain rfl ?_) ?_
    · intro vs W n hn hI hG hT hF K hK
      simp only [Rg.putsD, List.getD_cons_zero, List.getD_cons_succ, Act.put, List.setIfInBounds_toArray, List.set_cons_zero, List.set_cons_succ] at hK ⊢
      clear hn
      clear hF hI
      have c0 := blk_cell0 (blk_below hG.below HQ.out.2.1)
      have H := Lib.hid hK
      clear hK hT
      go_simp
      exact H.out _ _ (Gr.refl _) rfl (fun h => by cases h) trivial
    refine Rg.cons 14 15 rfl (Rg.plain rfl ?_) ?_
    · intro vs W n hn hI hG hT hF K hK
      simp only [Rg.putsD, List.getD_cons_zero, List.getD_cons_succ, Act.put, List.setIfInBounds_toArray, List.set_cons_zero, List.set_cons_succ] at hK ⊢
      clear hn
      clear hF hI
      have H := Lib.hid hK
      clear hK hT
      go_simp
      exact H.out _ _ (Gr.refl _) rfl (fun h => by cases h) trivial
    refine Rg.cons 15 16 rfl (Rg.plain rfl ?_) ?_
    · intro vs W n hn hI hG hT hF K hK
      simp only [Rg.putsD, List.getD_cons_zero, List.getD_cons_succ, Act.put, List.setIfInBounds_toArray, List.set_cons_zero, List.set_cons_succ] at hK ⊢
      clear hn
      clear hF hI
      have t13 : vs 13 = .slice (some ⟨gs, 0, none⟩) z cs := hT 13 (by decide)
      have t14 : vs 14 = .int .i64 a := hT 14 (by decide)
      simp only [t13, t14] at hK
      have H := Lib.hid hK
      clear hK hT
      go_simp
      exact H.out _ _ (Gr.refl _) rfl (fun h => by cases h) trivial
    refine Rg.cons 16 17 rfl (Rg.plain rfl ?_) ?_
    · intro vs W n hn hI hG hT hF K hK
      simp only [Rg.putsD, List.getD_cons_zero, List.getD_cons_succ, Act.put, List.setIfInBounds_toArray, List.set_cons_zero, List.set_cons_succ] at hK ⊢
      clear hn
      clear hF hI
      have t13 : vs 13 = .slice (some ⟨gs, 0, none⟩) z cs := hT 13 (by decide)
      have t14 : vs 14 = .int .i64 a := hT 14 (by decide)
      have t15 : vs 15 = .pointer (some ⟨gs, a, none⟩) := hT 15 (by decide)
      have c0 := (hG.below.cell (p := ⟨gs, a, none⟩) hgs).trans HQ.out.2.2.2.2.1
      simp only [t13, t14, t15] at hK
      have H := Lib.hid hK
      clear hK hT
      go_simp
      exact H.out _ _ (Gr.refl _) rfl (fun h => by cases h) trivial
    exact Rg.nil
  · intro vs W hG hI hT hF
    have t0 : vs 0 = .slice (some ⟨gw, 0, none⟩) z z := hT 0 (by decide)
    have t1 : vs 1 = .int .i64 b := hT 1 (by decide)
    have t2 : vs 2 = .pointer (some ⟨gw, b, none⟩) := hT 2 (by decide)
    have t3 : vs 3 = .int .i64 wb := hT 3 (by decide)
    have t4 : vs 4 = .slice (some ⟨gw, 0, none⟩) z z := hT 4 (by decide)
    have t5 : vs 5 = .int .i64 a := hT 5 (by decide)
    have t6 : vs 6 = .pointer (some ⟨gw, a, none⟩) := hT 6 (by decide)
    have t7 : vs 7 = .int .i64 wa := hT 7 (by decide)
    have t8 : vs 8 = .int .i64 (compareInt wb wa) := hT 8 (by decide)
    have t9 : vs 9 = .slice (some ⟨gs, 0, none⟩) z cs := hT 9 (by decide)
    have t10 : vs 10 = .int .i64 b := hT 10 (by decide)
    have t11 : vs 11 = .pointer (some ⟨gs, b, none⟩) := hT 11 (by decide)
    have t12 : vs 12 = .string sbb := hT 12 (by decide)
    have t13 : vs 13 = .slice (some ⟨gs, 0, none⟩) z cs := hT 13 (by decide)
    have t14 : vs 14 = .int .i64 a := hT 14 (by decide)
    have t15 : vs 15 = .pointer (some ⟨gs, a, none⟩) := hT 15 (by decide)
    have t16 : vs 16 = .string sa := hT 16 (by decide)
    simp only [List.length_cons, List.length_nil, Nat.reduceAdd, List.range, List.range.loop, List.drop_succ_cons, List.drop_zero, Rg.putsD, List.getD_cons_zero, List.getD_cons_succ, Act.put, List.setIfInBounds_toArray, List.set_cons_zero, List.set_cons_succ, t0, t1, t2, t3, t4, t5, t6, t7, t8, t9, t10, t11, t12, t13, t14, t15, t16]
    clear hT t0 t1 t2 t3 t4 t5 t6 t7 t8 t9 t10 t11 t12 t13 t14 t15 t16
    have HG := Lib.hid ((Gr.refl W0).drew.trans hG)
    clear hF hG hI HQ
    go_wp2_with fail
    refine (HS.out _ _ _).mono ?_
    rintro e w1 ⟨rfl, rfl⟩
    go_wp2_with fail
    have CO := Lib.hid (cmpOr_any [compareInt wb wa, compareBytes (bt sbb) (bt sa)] (by simp) w1.heap.size 2 (w1.alloc (.cells #[.int .i64 (compareInt wb wa), .int .i64 (compareBytes (bt sbb) (bt sa))] 3)) (lineAt_new w1 _ _))
    rw [orL2] at CO
    simp only [List.length_cons, List.length_nil] at CO
    refine CO.out.mono ?_
    rintro e w2 ⟨rfl, rfl⟩
    go_wp2_with fail
    go_ret
    exact ⟨rfl, HG.out.alloc _⟩
end Go.Proofs.Ytjmjmijjdgolfaa
