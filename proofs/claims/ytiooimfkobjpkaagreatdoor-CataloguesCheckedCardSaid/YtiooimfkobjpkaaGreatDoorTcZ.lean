/-
  The reference reads catalogues: the lines.
-/
import Derived.Test.YtiooimfkobjpkaaGreatDoorTcY
namespace Go.Proofs.YtiooimfkobjpkaaGreatDoor
open Go.RowKit
set_option linter.unusedSimpArgs false
set_option linter.unusedVariables false

set_option maxHeartbeats 1000000 in
theorem wordsR_any (l : ByteArray) (hl : l.size ≤ 200000) (w : World) (hG : Gl w) :
    Calls Tryz.prog 42 #[.string l] w fun e w' => e = .returned (.tuple #[.slice (some ⟨w.heap.size, 0, none⟩) (wordsB l).length (wordsB l).length, .bool (!has (wordsB l) dS)]) ∧ Below w.heap.size w w' ∧ ReadsF w.heap.size encS (.slice (some ⟨w.heap.size, 0, none⟩) (wordsB l).length (wordsB l).length) (wordsB l) w' := by
  obtain ⟨m, hm⟩ := hG.1
  have CS : Hid (Calls Tryz.prog 65 #[.string l, .string ⟨#[32]⟩] w fun e w' => e = .returned (.slice (some ⟨w.heap.size, 0, none⟩) (wordsB l).length (wordsB l).length) ∧ w' = w.alloc (.cells ((wordsB l).map Value.string).toArray 9)) := by
    rw [wordsB_len]
    exact Tryz.strings_Split l ⟨#[32]⟩ m w (by omega) hm (by decide)
  have hwl : (wordsB l).length ≤ 200001 := by
    rw [wordsB_len]
    have := Lib.countB_mul_le ⟨#[32]⟩ (by decide) l.size l (Nat.le_refl _)
    have e : (⟨#[32]⟩ : ByteArray).size = 1 := rfl
    rw [e] at this
    omega
  clear hm hG
  generalize wordsB l = ws at *
  obtain ⟨hb, hhb⟩ : ∃ b, has ws dS = b := ⟨_, rfl⟩
  have HHB := Lib.hid hhb
  rw [hhb]
  clear hhb
  go_enter Tryz.func42, Tryz.ntmps42
  go_wp2_with fail
  refine CS.out.mono ?_
  rintro e w2 ⟨rfl, rfl⟩
  have H2 : Hid (Below w.heap.size w (w.alloc (.cells (ws.map Value.string).toArray 9)) ∧ ReadsF w.heap.size encS (.slice (some ⟨w.heap.size, 0, none⟩) ws.length ws.length) ws (w.alloc (.cells (ws.map Value.string).toArray 9))) :=
    ⟨(Below.refl _ _).alloc (Nat.le_refl _) _, readsF_lit rfl (Nat.le_refl _) (blk_new w _ rfl) (Nat.le_refl _)⟩
  generalize w.alloc (.cells (ws.map Value.string).toArray 9) = w2 at *
  have CH := Lib.hid (contains_any (c := ws.length) dS ws.length (Nat.le_refl _) (by omega) H2.out.2 ws.length)
  rw [List.take_of_length_le (Nat.le_refl _), HHB.out] at CH
  go_wp2_with fail
  refine CH.out.mono ?_
  rintro e w3 ⟨rfl, rfl⟩
  go_wp2_with fail
  refine bodyPost_ret (v := .tuple #[.slice (some ⟨w.heap.size, 0, none⟩) ws.length ws.length, .bool (!hb)]) (by unfold results; simp only [Tryz.results42]; go_simp) rfl ⟨rfl, H2.out.1, H2.out.2⟩

theorem part_not {x : ByteArray} (h : isPart x = true) : isUse x = false ∧ isBoth x = false := by
  unfold isPart at h
  unfold isUse isBoth
  rw [eq_of_beq h]
  exact ⟨rfl, rfl⟩
theorem takeCat_cons {i : Nat} {st : St} {x : ByteArray} {r : List ByteArray} : takeCat i st (x :: r) = if isPart x = true then takePart st (x :: r) else takeAlt st (x :: r) := rfl
theorem takeCat_four {i : Nat} {st : St} {ws : List ByteArray} (h : ws.length = 4) : takeCat i st ws = takeAlt st ws := by
  obtain ⟨x, a, f, c, rfl⟩ := len4 h
  rw [takeCat_cons]
  by_cases hx : isPart x = true
  · rw [if_pos hx, takePart_len (by simp)]
    obtain ⟨h1, h2⟩ := part_not hx
    simp only [takeAlt]
    rw [if_neg]
    rw [h1, h2]
    simp
  · rw [if_neg hx]
theorem takeCat_other {i : Nat} {st : St} {ws : List ByteArray} (h4 : ws.length ≠ 4) (h5 : ws.length ≠ 5) : takeCat i st ws = none := by
  cases ws with
  | nil => rfl
  | cons x r =>
    rw [takeCat_cons]
    split
    · exact takePart_len h5
    · exact takeAlt_len h4
theorem takeCat_five {i : Nat} {st : St} {x a b c d : ByteArray} : takeCat i st [x, a, b, c, d] = if (isPart x = true ∧ st.2.length = 0) ∧ numsB 15 [c, d] = true then some (st.1 ++ [⟨a, b, numI 15 c, numI 15 d⟩], st.2) else none := by
  rw [takeCat_cons]
  by_cases hx : isPart x = true
  · rw [if_pos hx]
    simp only [takePart]
    by_cases h2 : st.2.length = 0 ∧ numsB 15 [c, d] = true
    · rw [if_pos h2, if_pos ⟨⟨hx, h2.1⟩, h2.2⟩]
    · rw [if_neg h2, if_neg (fun h => h2 ⟨h.1.2, h.2⟩)]
  · rw [if_neg hx, takeAlt_len (by simp), if_neg (fun h => hx h.1.1)]

theorem words_at {w : World} {g : Nat} {ws : List ByteArray} (h : ws = [] ∨ ∃ g' : Nat, some (⟨g, 0, none⟩ : Addr) = some ⟨g', 0, none⟩ ∧ g ≤ g' ∧ LineAt w g' (ws.flatMap encS)) : ws = [] ∨ (g < w.heap.size ∧ ∀ k (hk : k < ws.length), w.cell? ⟨g, k, none⟩ = some (.string ws[k])) := by
  rcases h with h | ⟨g', e, _, hl⟩
  · exact .inl h
  · injection e with e
    injection e with e
    subst e
    exact .inr ⟨hl.1, fun k hk => row_strg hl hk⟩

set_option maxRecDepth 100000 in
set_option maxHeartbeats 16000000 in
theorem catRef_takes (cb base : Nat) (hcb : base ≤ cb) (hlow : gLow ≤ base) : TakesR 41 cb base (stepW takeCat) (fun i st w => CatAt cb i st w ∧ Gl w) := by
  intro i st l w hi hl hbw hIG
  obtain ⟨hI, hG⟩ := hIG
  have CW := Lib.hid (wordsR_any l hl w hG)
  have hwl : (wordsB l).length ≤ 200001 := by
    rw [wordsB_len]
    have := Lib.countB_mul_le ⟨#[32]⟩ (by decide) l.size l (Nat.le_refl _)
    have e : (⟨#[32]⟩ : ByteArray).size = 1 := rfl
    rw [e] at this
    omega
  have hwne : wordsB l ≠ [] := fun h => by have := wordsB_len l; rw [h] at this; simp at this
  have HWZ : Hid (∀ x ∈ wordsB l, x.size ≤ 200000) := fun x hx => by have := wordsB_size hx; omega
  have HSW : Hid (stepW takeCat i st l = if has (wordsB l) dS = true then none else takeCat i st (wordsB l)) := rfl
  generalize stepW takeCat i st l = R at *
  generalize wordsB l = ws at *
  have hcb0 := hI.lt
  have hlen := hI.len
  have HS9 := Lib.hid (And.intro hI.sp hI.sa)
  obtain ⟨v1, v2, hp, ho1, ho2⟩ := hI.blk
  obtain ⟨A1, k1, rfl, hk1, _⟩ := own_slice' ho1
  obtain ⟨A2, k2, rfl, hk2, _⟩ := own_slice' ho2
  have HBK := Lib.hid hp
  have HO := Lib.hid (And.intro ho1 ho2)
  clear hI ho1 ho2 hp
  cases hh : has ws dS
  rotate_left
  · have HR := Lib.hid (HSW.out.trans (if_pos hh))
    rw [hh] at CW
    clear HSW hh
    go_enter Tryz.func41, Tryz.ntmps41
    (go_wp2_with fail; refine CW.out.mono ?_; rintro e w1 ⟨rfl, b1, hrf⟩; obtain ⟨_, _, ew, _, hrw⟩ := hrf; cases ew; have HB := Lib.hid (b1.mono hbw); obtain ⟨p0, p1, _, _⟩ := blk2 (blk_below b1 HBK.out); have hcbl := lt_of_blk (blk_below b1 HBK.out); have QW := Lib.hid (words_at hrw); clear b1 hrw)
    go_wp2_with fail
    go_ret
    exact ⟨by rw [HR.out]; rfl, HB.out, fun st' h => by rw [HR.out] at h; cases h⟩
  have HSW2 := Lib.hid (HSW.out.trans (if_neg (by rw [hh]; simp)))
  rw [hh] at CW
  clear HSW hh
  by_cases h4 : ws.length = 4
  · have HT := Lib.hid (HSW2.out.trans (takeCat_four h4))
    obtain ⟨x, a, f, c, rfl⟩ := len4 h4
    clear HSW2 h4
    have HX : Hid (∀ (h1 : (isUse x || isBoth x) = false ∨ isFor f = false), takeAlt st [x, a, f, c] = none) := fun h1 => by
      simp only [takeAlt]
      rw [if_neg]
      rintro ⟨h2, h3⟩
      rcases h1 with h1 | h1
      · rw [h1] at h2; cases h2
      · rw [h1] at h3; cases h3
    have HY : Hid (∀ (h1 : (isUse x || isBoth x) = true) (h2 : isFor f = true), takeAlt st [x, a, f, c] = some (st.1, st.2 ++ [⟨c, a, isBoth x⟩])) := fun h1 h2 => by
      simp only [takeAlt]
      rw [if_pos ⟨h1, h2⟩]
    unfold isUse isBoth isFor at HX HY
    simp only [List.length_cons, List.length_nil, Nat.zero_add, Nat.reduceAdd] at CW
    cases hf : (f.toList == [102, 111, 114])
    · have HR := Lib.hid (HT.out.trans (HX.out (.inr hf)))
      clear HX HY HT
      cases hu : (x.toList == [117, 115, 101]) <;> cases hb : (x.toList == [98, 111, 116, 104])
      all_goals
        go_enter Tryz.func41, Tryz.ntmps41
        (go_wp2_with fail; refine CW.out.mono ?_; rintro e w1 ⟨rfl, b1, hrf⟩; obtain ⟨_, _, ew, _, hrw⟩ := hrf; cases ew; have HB := Lib.hid (b1.mono hbw); obtain ⟨p0, p1, _, _⟩ := blk2 (blk_below b1 HBK.out); have hcbl := lt_of_blk (blk_below b1 HBK.out); have QW := Lib.hid (words_at hrw); clear b1 hrw)
        have q0 := (QW.out.resolve_left (by simp)).2 0 (by simp)
        have q2 := (QW.out.resolve_left (by simp)).2 2 (by simp)
        have qg := (QW.out.resolve_left (by simp)).1
        simp only [List.getElem_cons_zero, List.getElem_cons_succ] at q0 q2
        go_wp2_with fail
        go_ret
        exact ⟨by rw [HR.out]; rfl, HB.out, fun st' h => by rw [HR.out] at h; cases h⟩
    cases hu : (x.toList == [117, 115, 101])
    · cases hb : (x.toList == [98, 111, 116, 104])
      · have HR := Lib.hid (HT.out.trans (HX.out (.inl (by rw [hu, hb]; rfl))))
        clear HX HY HT
        go_enter Tryz.func41, Tryz.ntmps41
        (go_wp2_with fail; refine CW.out.mono ?_; rintro e w1 ⟨rfl, b1, hrf⟩; obtain ⟨_, _, ew, _, hrw⟩ := hrf; cases ew; have HB := Lib.hid (b1.mono hbw); obtain ⟨p0, p1, _, _⟩ := blk2 (blk_below b1 HBK.out); have hcbl := lt_of_blk (blk_below b1 HBK.out); have QW := Lib.hid (words_at hrw); clear b1 hrw)
        have q0 := (QW.out.resolve_left (by simp)).2 0 (by simp)
        have q2 := (QW.out.resolve_left (by simp)).2 2 (by simp)
        have qg := (QW.out.resolve_left (by simp)).1
        simp only [List.getElem_cons_zero, List.getElem_cons_succ] at q0 q2
        go_wp2_with fail
        go_ret
        exact ⟨by rw [HR.out]; rfl, HB.out, fun st' h => by rw [HR.out] at h; cases h⟩
      skip
      have HR := Lib.hid (HT.out.trans (HY.out (by rw [hu]; rw [hb]; rfl) hf))
      rw [hb] at HR
      clear HX HY HT
      go_enter Tryz.func41, Tryz.ntmps41
      go_wp2_with fail
      refine CW.out.mono ?_
      rintro e w1 ⟨rfl, b1, hrf⟩
      obtain ⟨_, _, ew, _, hrw⟩ := hrf
      cases ew
      obtain ⟨qg, qq⟩ := (words_at hrw).resolve_left (by simp)
      have q0 := qq 0 (by simp)
      have q1 := qq 1 (by simp)
      have q2 := qq 2 (by simp)
      have q3 := qq 3 (by simp)
      simp only [List.getElem_cons_zero, List.getElem_cons_succ] at q0 q1 q2 q3
      have H1 : Hid (Below base w w1 ∧ w1.heap[cb]? = some (.cells #[.slice A1 st.1.length k1, .slice A2 st.2.length k2] 29 (0, 0)) ∧ w1.ownsRow (cb + 1) 47 4 (.slice A1 st.1.length k1) st.1.length (st.1.flatMap encPa) ∧ w1.ownsRow (cb + 1) 51 3 (.slice A2 st.2.length k2) st.2.length (st.2.flatMap encAl)) :=
        ⟨b1.mono hbw, blk_below b1 HBK.out, own_below HO.out.1 b1, own_below HO.out.2 b1⟩
      have HN := Lib.hid (And.intro q0 (And.intro q1 q3))
      obtain ⟨p0, p1, _, _⟩ := blk2 H1.out.2.1
      have hcbl := lt_of_blk H1.out.2.1
      have hcw : cb + 1 ≤ w.heap.size := hcb0
      have HZC := Lib.hid (And.intro (HWZ.out c (by simp)) (HWZ.out a (by simp)))
      generalize hgw : w.heap.size = gw at *
      have hne1 : gw ≠ cb := by omega
      clear hgw
      have HGL := Lib.hid hG
      clear b1 hrw qq q1 q3
      go_upto_region 7 with (fail)
      clear q0 q2 p0 p1
      obtain ⟨i0, hi0, hz0, hzz1, hzz2⟩ := info_parts alt_info
      have HIF := Lib.hid (And.intro hi0 (And.intro hz0 (And.intro hzz1 hzz2)))
      clear hi0 hz0 hzz1 hzz2
      refine Rg.rgL (fun a b => Below a.heap.size a b)
        [(fun vs u => vs 0 = .pointer (some ⟨cb, 1, none⟩)), (fun vs u => vs 1 = .slice A2 st.2.length k2), (fun vs u => vs 2 = .slice (some ⟨gw, 0, none⟩) 4 4), (fun vs u => vs 3 = .pointer (some ⟨gw, 3, none⟩)), (fun vs u => vs 4 = .string c), (fun vs u => vs 5 = .slice (some ⟨gw, 0, none⟩) 4 4), (fun vs u => vs 6 = .pointer (some ⟨gw, 1, none⟩)), (fun vs u => vs 7 = .string a), (fun vs u => vs 8 = .slice (some ⟨gw, 0, none⟩) 4 4), (fun vs u => vs 9 = .pointer (some ⟨gw, 0, none⟩)), (fun vs u => vs 10 = .string x), (fun vs u => vs 11 = .bool true), (fun vs u => vs 12 = .agg #[.string c, .string a, .bool true]), (fun vs u => ∃ q : Nat, vs 13 = .slice (some ⟨q, 0, none⟩) 1 1 ∧ u.heap[q]? = some (.cells #[.string c, .string a, .bool true] 51 (0, 0)))]
        [[], [0], [], [2], [2, 3], [], [5], [5, 6], [], [8], [8, 9], [8, 9, 10], [2, 3, 4, 5, 6, 7, 8, 9, 10, 11], [2, 3, 4, 5, 6, 7, 8, 9, 10, 11, 12]] [some 82, some 83, some 84, some 85, some 86, some 87, some 88, some 89, some 90, some 91, some 92, some 93, some 94, some 95, some 96, some 97, none] [13] (fun _ _ => True) [[], [0], [], [2], [2, 3], [], [5], [5, 6], [], [8], [8, 9], [8, 9, 10], [2, 3, 4, 5, 6, 7, 8, 9, 10, 11], [2, 3, 4, 5, 6, 7, 8, 9, 10, 11, 12], [0, 1, 2, 3, 4, 5, 6, 7, 8, 9, 10, 11, 12, 13], [0, 1, 2, 3, 4, 5, 6, 7, 8, 9, 10, 11, 12, 13, 14], [0, 1, 2, 3, 4, 5, 6, 7, 8, 9, 10, 11, 12, 13, 14, 15]]
        (by kernel_rfl) (by decide) (by kernel_rfl) (by kernel_rfl) (by kernel_rfl) (by kernel_rfl) (by kernel_rfl) (fun _ => Below.refl _ _) (fun _ _ _ h k => h.ext k) (fun _ _ h => h.size) ?_ trivial ?_ ?_
      · intro t ht vs w w' h hE
        simp only [List.mem_cons, List.not_mem_nil, or_false] at ht
        rcases ht with rfl | rfl | rfl | rfl | rfl | rfl | rfl | rfl | rfl | rfl | rfl | rfl | rfl | rfl
        · exact h
        · exact h
        · exact h
        · exact h
        · exact h
        · exact h
        · exact h
        · exact h
        · exact h
        · exact h
        · exact h
        · exact h
        · exact h
        · obtain ⟨q, e, k⟩ := h
          exact ⟨q, e, blk_below hE k⟩
      ·
        refine Rg.cons 0 1 rfl (Rg.plain rfl ?_) ?_
        · intro vs W n hn hI hG hT hF K hK
          simp only [Rg.putsD, List.getD_cons_zero, List.getD_cons_succ, Act.put, List.setIfInBounds_toArray, List.set_cons_zero, List.set_cons_succ] at hK ⊢
          clear hn
          clear hF hI
          have H := Lib.hid hK
          clear hK hT
          go_simp
          exact H.out _ _ (Below.refl _ _) rfl (fun h => by cases h) trivial
        refine Rg.cons 1 2 rfl (Rg.plain rfl ?_) ?_
        · intro vs W n hn hI hG hT hF K hK
          simp only [Rg.putsD, List.getD_cons_zero, List.getD_cons_succ, Act.put, List.setIfInBounds_toArray, List.set_cons_zero, List.set_cons_succ] at hK ⊢
          clear hn
          clear hF hI
          have t0 : vs 0 = .pointer (some ⟨cb, 1, none⟩) := hT 0 (by decide)
          obtain ⟨c0, c1, _, _⟩ := blk2 (blk_below hG H1.out.2.1)
          have hcl := lt_of_blk (blk_below hG H1.out.2.1)
          simp only [t0] at hK
          have H := Lib.hid hK
          clear hK hT
          go_simp
          exact H.out _ _ (Below.refl _ _) rfl (fun h => by cases h) trivial
        refine Rg.cons 2 3 rfl (Rg.plain rfl ?_) ?_
        · intro vs W n hn hI hG hT hF K hK
          simp only [Rg.putsD, List.getD_cons_zero, List.getD_cons_succ, Act.put, List.setIfInBounds_toArray, List.set_cons_zero, List.set_cons_succ] at hK ⊢
          clear hn
          clear hF hI
          have H := Lib.hid hK
          clear hK hT
          go_simp
          exact H.out _ _ (Below.refl _ _) rfl (fun h => by cases h) trivial
        refine Rg.cons 3 4 rfl (Rg.plain rfl ?_) ?_
        · intro vs W n hn hI hG hT hF K hK
          simp only [Rg.putsD, List.getD_cons_zero, List.getD_cons_succ, Act.put, List.setIfInBounds_toArray, List.set_cons_zero, List.set_cons_succ] at hK ⊢
          clear hn
          clear hF hI
          have t2 : vs 2 = .slice (some ⟨gw, 0, none⟩) 4 4 := hT 2 (by decide)
          simp only [t2] at hK
          have H := Lib.hid hK
          clear hK hT
          go_simp
          exact H.out _ _ (Below.refl _ _) rfl (fun h => by cases h) trivial
        refine Rg.cons 4 5 rfl (Rg.plain rfl ?_) ?_
        · intro vs W n hn hI hG hT hF K hK
          simp only [Rg.putsD, List.getD_cons_zero, List.getD_cons_succ, Act.put, List.setIfInBounds_toArray, List.set_cons_zero, List.set_cons_succ] at hK ⊢
          clear hn
          clear hF hI
          have t2 : vs 2 = .slice (some ⟨gw, 0, none⟩) 4 4 := hT 2 (by decide)
          have t3 : vs 3 = .pointer (some ⟨gw, 3, none⟩) := hT 3 (by decide)
          have c0 := (hG.cell (p := ⟨gw, 3, none⟩) qg).trans HN.out.2.2
          simp only [t2, t3] at hK
          have H := Lib.hid hK
          clear hK hT
          go_simp
          exact H.out _ _ (Below.refl _ _) rfl (fun h => by cases h) trivial
        refine Rg.cons 5 6 rfl (Rg.plain rfl ?_) ?_
        · intro vs W n hn hI hG hT hF K hK
          simp only [Rg.putsD, List.getD_cons_zero, List.getD_cons_succ, Act.put, List.setIfInBounds_toArray, List.set_cons_zero, List.set_cons_succ] at hK ⊢
          clear hn
          clear hF hI
          have H := Lib.hid hK
          clear hK hT
          go_simp
          exact H.out _ _ (Below.refl _ _) rfl (fun h => by cases h) trivial
        refine Rg.cons 6 7 rfl (Rg.plain rfl ?_) ?_
        · intro vs W n hn hI hG hT hF K hK
          simp only [Rg.putsD, List.getD_cons_zero, List.getD_cons_succ, Act.put, List.setIfInBounds_toArray, List.set_cons_zero, List.set_cons_succ] at hK ⊢
          clear hn
          clear hF hI
          have t5 : vs 5 = .slice (some ⟨gw, 0, none⟩) 4 4 := hT 5 (by decide)
          simp only [t5] at hK
          have H := Lib.hid hK
          clear hK hT
          go_simp
          exact H.out _ _ (Below.refl _ _) rfl (fun h => by cases h) trivial
        refine Rg.cons 7 8 rfl (Rg.plain rfl ?_) ?_
        · intro vs W n hn hI hG hT hF K hK
          simp only [Rg.putsD, List.getD_cons_zero, List.getD_cons_succ, Act.put, List.setIfInBounds_toArray, List.set_cons_zero, List.set_cons_succ] at hK ⊢
          clear hn
          clear hF hI
          have t5 : vs 5 = .slice (some ⟨gw, 0, none⟩) 4 4 := hT 5 (by decide)
          have t6 : vs 6 = .pointer (some ⟨gw, 1, none⟩) := hT 6 (by decide)
          have c0 := (hG.cell (p := ⟨gw, 1, none⟩) qg).trans HN.out.2.1
          simp only [t5, t6] at hK
          have H := Lib.hid hK
          clear hK hT
          go_simp
          exact H.out _ _ (Below.refl _ _) rfl (fun h => by cases h) trivial
        refine Rg.cons 8 9 rfl (Rg.plain rfl ?_) ?_
        · intro vs W n hn hI hG hT hF K hK
          simp only [Rg.putsD, List.getD_cons_zero, List.getD_cons_succ, Act.put, List.setIfInBounds_toArray, List.set_cons_zero, List.set_cons_succ] at hK ⊢
          clear hn
          clear hF hI
          have H := Lib.hid hK
          clear hK hT
          go_simp
          exact H.out _ _ (Below.refl _ _) rfl (fun h => by cases h) trivial
        refine Rg.cons 9 10 rfl (Rg.plain rfl ?_) ?_
        · intro vs W n hn hI hG hT hF K hK
          simp only [Rg.putsD, List.getD_cons_zero, List.getD_cons_succ, Act.put, List.setIfInBounds_toArray, List.set_cons_zero, List.set_cons_succ] at hK ⊢
          clear hn
          clear hF hI
          have t8 : vs 8 = .slice (some ⟨gw, 0, none⟩) 4 4 := hT 8 (by decide)
          simp only [t8] at hK
          have H := Lib.hid hK
          clear hK hT
          go_simp
          exact H.out _ _ (Below.refl _ _) rfl (fun h => by cases h) trivial
        refine Rg.cons 10 11 rfl (Rg.plain rfl ?_) ?_
        · intro vs W n hn hI hG hT hF K hK
          simp only [Rg.putsD, List.getD_cons_zero, List.getD_cons_succ, Act.put, List.setIfInBounds_toArray, List.set_cons_zero, List.set_cons_succ] at hK ⊢
          clear hn
          clear hF hI
          have t8 : vs 8 = .slice (some ⟨gw, 0, none⟩) 4 4 := hT 8 (by decide)
          have t9 : vs 9 = .pointer (some ⟨gw, 0, none⟩) := hT 9 (by decide)
          have c0 := (hG.cell (p := ⟨gw, 0, none⟩) qg).trans HN.out.1
          simp only [t8, t9] at hK
          have H := Lib.hid hK
          clear hK hT
          go_simp
          exact H.out _ _ (Below.refl _ _) rfl (fun h => by cases h) trivial
        refine Rg.cons 11 12 rfl (Rg.plain rfl ?_) ?_
        · intro vs W n hn hI hG hT hF K hK
          simp only [Rg.putsD, List.getD_cons_zero, List.getD_cons_succ, Act.put, List.setIfInBounds_toArray, List.set_cons_zero, List.set_cons_succ] at hK ⊢
          clear hn
          clear hF hI
          have t8 : vs 8 = .slice (some ⟨gw, 0, none⟩) 4 4 := hT 8 (by decide)
          have t9 : vs 9 = .pointer (some ⟨gw, 0, none⟩) := hT 9 (by decide)
          have t10 : vs 10 = .string x := hT 10 (by decide)
          simp only [t8, t9, t10] at hK
          have H := Lib.hid hK
          clear hK hT
          go_simp
          exact H.out _ _ (Below.refl _ _) rfl (fun h => by cases h) trivial
        refine Rg.cons 12 13 rfl (Rg.plain rfl ?_) ?_
        · intro vs W n hn hI hG hT hF K hK
          simp only [Rg.putsD, List.getD_cons_zero, List.getD_cons_succ, Act.put, List.setIfInBounds_toArray, List.set_cons_zero, List.set_cons_succ] at hK ⊢
          clear hn
          clear hF hI
          have t2 : vs 2 = .slice (some ⟨gw, 0, none⟩) 4 4 := hT 2 (by decide)
          have t3 : vs 3 = .pointer (some ⟨gw, 3, none⟩) := hT 3 (by decide)
          have t4 : vs 4 = .string c := hT 4 (by decide)
          have t5 : vs 5 = .slice (some ⟨gw, 0, none⟩) 4 4 := hT 5 (by decide)
          have t6 : vs 6 = .pointer (some ⟨gw, 1, none⟩) := hT 6 (by decide)
          have t7 : vs 7 = .string a := hT 7 (by decide)
          have t8 : vs 8 = .slice (some ⟨gw, 0, none⟩) 4 4 := hT 8 (by decide)
          have t9 : vs 9 = .pointer (some ⟨gw, 0, none⟩) := hT 9 (by decide)
          have t10 : vs 10 = .string x := hT 10 (by decide)
          have t11 : vs 11 = .bool true := hT 11 (by decide)
          simp only [t2, t3, t4, t5, t6, t7, t8, t9, t10, t11] at hK
          have H := Lib.hid hK
          clear hK hT
          go_simp
          exact H.out _ _ (Below.refl _ _) rfl (fun h => by cases h) trivial
        refine Rg.cons 13 14 rfl (Rg.plain rfl ?_) ?_
        · intro vs W n hn hI hG hT hF K hK
          simp only [Rg.putsD, List.getD_cons_zero, List.getD_cons_succ, Act.put, List.setIfInBounds_toArray, List.set_cons_zero, List.set_cons_succ] at hK ⊢
          clear hn
          clear hF hI
          have t2 : vs 2 = .slice (some ⟨gw, 0, none⟩) 4 4 := hT 2 (by decide)
          have t3 : vs 3 = .pointer (some ⟨gw, 3, none⟩) := hT 3 (by decide)
          have t4 : vs 4 = .string c := hT 4 (by decide)
          have t5 : vs 5 = .slice (some ⟨gw, 0, none⟩) 4 4 := hT 5 (by decide)
          have t6 : vs 6 = .pointer (some ⟨gw, 1, none⟩) := hT 6 (by decide)
          have t7 : vs 7 = .string a := hT 7 (by decide)
          have t8 : vs 8 = .slice (some ⟨gw, 0, none⟩) 4 4 := hT 8 (by decide)
          have t9 : vs 9 = .pointer (some ⟨gw, 0, none⟩) := hT 9 (by decide)
          have t10 : vs 10 = .string x := hT 10 (by decide)
          have t11 : vs 11 = .bool true := hT 11 (by decide)
          have t12 : vs 12 = .agg #[.string c, .string a, .bool true] := hT 12 (by decide)
          simp only [t2, t3, t4, t5, t6, t7, t8, t9, t10, t11, t12] at hK
          have H := Lib.hid hK
          clear hK hT
          go_simp
          exact H.out _ _ ((Below.refl _ _).alloc (Nat.le_refl _) _) (show ∃ q : Nat, _ = _ ∧ _ = _ from ⟨_, rfl, blk_new W _ rfl⟩) (fun _ => ⟨W.heap.size, rfl, Nat.le_refl _, by simp⟩) trivial
        exact Rg.nil
      · intro vs W hG hI hT hF
        have t0 : vs 0 = .pointer (some ⟨cb, 1, none⟩) := hT 0 (by decide)
        have t1 : vs 1 = .slice A2 st.2.length k2 := hT 1 (by decide)
        have t2 : vs 2 = .slice (some ⟨gw, 0, none⟩) 4 4 := hT 2 (by decide)
        have t3 : vs 3 = .pointer (some ⟨gw, 3, none⟩) := hT 3 (by decide)
        have t4 : vs 4 = .string c := hT 4 (by decide)
        have t5 : vs 5 = .slice (some ⟨gw, 0, none⟩) 4 4 := hT 5 (by decide)
        have t6 : vs 6 = .pointer (some ⟨gw, 1, none⟩) := hT 6 (by decide)
        have t7 : vs 7 = .string a := hT 7 (by decide)
        have t8 : vs 8 = .slice (some ⟨gw, 0, none⟩) 4 4 := hT 8 (by decide)
        have t9 : vs 9 = .pointer (some ⟨gw, 0, none⟩) := hT 9 (by decide)
        have t10 : vs 10 = .string x := hT 10 (by decide)
        have t11 : vs 11 = .bool true := hT 11 (by decide)
        have t12 : vs 12 = .agg #[.string c, .string a, .bool true] := hT 12 (by decide)
        have t13 : ∃ q : Nat, vs 13 = .slice (some ⟨q, 0, none⟩) 1 1 ∧ W.heap[q]? = some (.cells #[.string c, .string a, .bool true] 51 (0, 0)) := hT 13 (by decide)
        simp only [List.length_cons, List.length_nil, Nat.reduceAdd, List.range, List.range.loop, List.drop_succ_cons, List.drop_zero, Rg.putsD, List.getD_cons_zero, List.getD_cons_succ, Act.put, List.setIfInBounds_toArray, List.set_cons_zero, List.set_cons_succ, t0, t1, t2, t3, t4, t5, t6, t7, t8, t9, t10, t11, t12]
        clear hT t0 t1 t2 t3 t4 t5 t6 t7 t8 t9 t10 t11 t12
        obtain ⟨bq, e8, k8⟩ := t13
        have hszd : w1.heap.size ≤ W.heap.size := hG.size
        have HW : Hid (Below base w W ∧ W.ownsRow (cb + 1) 51 3 (.slice A2 st.2.length k2) st.2.length (st.2.flatMap encAl) ∧ W.heap[cb]? = some (.cells #[.slice A1 st.1.length k1, .slice A2 st.2.length k2] 29 (0, 0)) ∧ W.heap[bq]? = some (.cells #[.string c, .string a, .bool true] 51 (0, 0)) ∧ W.ownsRow (cb + 1) 47 4 (.slice A1 st.1.length k1) st.1.length (st.1.flatMap encPa)) :=
          ⟨(H1.out.1.drew).then_below hG (by have := H1.out.1.size; show base ≤ w1.heap.size; omega), own_below (w := w1.drew) H1.out.2.2.2.drew hG, blk_below hG H1.out.2.1, k8, own_below (w := w1.drew) H1.out.2.2.1.drew hG⟩
        have E8 := Lib.hid e8
        have hcW : cb + 1 ≤ W.heap.size := lt_of_blk HW.out.2.2.1
        clear hF hI e8 k8 hG
        simp only [E8.out]
        refine wpList_append_own _ rfl _ _ 27 rfl (cb + 1) 51 i0 _ 3 40 Tryz.underlying27 HIF.out.1 HIF.out.2.1 HIF.out.2.2.1 HIF.out.2.2.2 rfl (by omega) _ st.2.length (st.2.flatMap encAl) rfl HW.out.2.1 ⟨bq, 0, none⟩ 1 1 [.string c, .string a, .bool true] rfl rfl ?c1 (by intro u hu; simp at hu; rcases hu with rfl | rfl | rfl <;> rfl) ?c2 ?c3 hcW ?_
        case c1 =>
          intro q u hu
          rw [addr_new, cell_of_blk HW.out.2.2.2.1]
          simpa using hu
        case c2 => unfold maxLen; omega
        case c3 => omega
        intro v' w4 hown' hg' _
        obtain ⟨A9, c9, rfl, _, _⟩ := own_slice' hown'
        have b4 := (hg'.block cb (by omega) (fun e => by have := own_row HW.out.2.1 cb e.symm; omega)).trans HW.out.2.2.1
        obtain ⟨_, p4, _, f4⟩ := blk2 b4
        have h4l := lt_of_blk b4
        have HV : Hid (Below base w w4 ∧ w4.ownsRow (cb + 1) 51 3 (.slice A9 (st.2.length + 1) c9) (st.2.length + 1) (st.2.flatMap encAl ++ [.string c, .string a, .bool true]) ∧ w4.heap[cb]? = some (.cells #[.slice A1 st.1.length k1, .slice A2 st.2.length k2] 29 (0, 0)) ∧ w4.ownsRow (cb + 1) 47 4 (.slice A1 st.1.length k1) st.1.length (st.1.flatMap encPa)) :=
          ⟨HW.out.1.grown hg' (by omega) (fun k hk => by have := own_row HW.out.2.1 k hk; omega), hown', b4, HW.out.2.2.2.2.kept hg' (own_apart HW.out.2.2.2.2 HW.out.2.1 (by decide))⟩
        clear hown' hg' b4 HW
        go_wp2_with fail
        have HF : Hid (Below base w (w4.setCell ⟨cb, 1, none⟩ (.slice A9 (st.2.length + 1) c9)) ∧ CatAt cb (i + 1) (st.1, st.2 ++ [⟨c, a, true⟩]) (w4.setCell ⟨cb, 1, none⟩ (.slice A9 (st.2.length + 1) c9))) := by
          refine ⟨HV.out.1.setCell hcb _, ⟨_, _, blk_set HV.out.2.2.1 _, own_far HV.out.2.2.2 (p := ⟨cb, 1, none⟩) (by show cb < cb + 1; omega) _, ?_⟩, ?_, HS9.out.1, ?_⟩
          · have := own_far HV.out.2.1 (p := ⟨cb, 1, none⟩) (by show cb < cb + 1; omega) (.slice A9 (st.2.length + 1) c9)
            rw [List.length_append, flatAl_snoc]
            exact this
          · rw [List.length_append]
            show st.1.length + (st.2.length + 1) ≤ i + 1
            omega
          · intro p hp
            rcases List.mem_append.mp hp with hp | hp
            · exact HS9.out.2 p hp
            · have : p = ⟨c, a, true⟩ := by simpa using hp
              subst this
              exact HZC.out
        generalize w4.setCell ⟨cb, 1, none⟩ (.slice A9 (st.2.length + 1) c9) = w3 at *
        go_wp2_with fail
        go_ret
        exact ⟨by rw [HR.out]; rfl, HF.out.1, fun st' h => by rw [HR.out] at h; cases h; exact ⟨HF.out.2, HGL.out.below HF.out.1 hlow⟩⟩
    · obtain ⟨bo, hb⟩ : ∃ bo, (x.toList == [98, 111, 116, 104]) = bo := ⟨_, rfl⟩
      have HR := Lib.hid (HT.out.trans (HY.out (by rw [hu]; rfl) hf))
      rw [hb] at HR
      clear HX HY HT
      go_enter Tryz.func41, Tryz.ntmps41
      go_wp2_with fail
      refine CW.out.mono ?_
      rintro e w1 ⟨rfl, b1, hrf⟩
      obtain ⟨_, _, ew, _, hrw⟩ := hrf
      cases ew
      obtain ⟨qg, qq⟩ := (words_at hrw).resolve_left (by simp)
      have q0 := qq 0 (by simp)
      have q1 := qq 1 (by simp)
      have q2 := qq 2 (by simp)
      have q3 := qq 3 (by simp)
      simp only [List.getElem_cons_zero, List.getElem_cons_succ] at q0 q1 q2 q3
      have H1 : Hid (Below base w w1 ∧ w1.heap[cb]? = some (.cells #[.slice A1 st.1.length k1, .slice A2 st.2.length k2] 29 (0, 0)) ∧ w1.ownsRow (cb + 1) 47 4 (.slice A1 st.1.length k1) st.1.length (st.1.flatMap encPa) ∧ w1.ownsRow (cb + 1) 51 3 (.slice A2 st.2.length k2) st.2.length (st.2.flatMap encAl)) :=
        ⟨b1.mono hbw, blk_below b1 HBK.out, own_below HO.out.1 b1, own_below HO.out.2 b1⟩
      have HN := Lib.hid (And.intro q0 (And.intro q1 q3))
      obtain ⟨p0, p1, _, _⟩ := blk2 H1.out.2.1
      have hcbl := lt_of_blk H1.out.2.1
      have hcw : cb + 1 ≤ w.heap.size := hcb0
      have HZC := Lib.hid (And.intro (HWZ.out c (by simp)) (HWZ.out a (by simp)))
      generalize hgw : w.heap.size = gw at *
      have hne1 : gw ≠ cb := by omega
      clear hgw
      have HGL := Lib.hid hG
      clear b1 hrw qq q1 q3
      go_upto_region 7 with (fail)
      clear q0 q2 p0 p1
      obtain ⟨i0, hi0, hz0, hzz1, hzz2⟩ := info_parts alt_info
      have HIF := Lib.hid (And.intro hi0 (And.intro hz0 (And.intro hzz1 hzz2)))
      clear hi0 hz0 hzz1 hzz2
      refine Rg.rgL (fun a b => Below a.heap.size a b)
        [(fun vs u => vs 0 = .pointer (some ⟨cb, 1, none⟩)), (fun vs u => vs 1 = .slice A2 st.2.length k2), (fun vs u => vs 2 = .slice (some ⟨gw, 0, none⟩) 4 4), (fun vs u => vs 3 = .pointer (some ⟨gw, 3, none⟩)), (fun vs u => vs 4 = .string c), (fun vs u => vs 5 = .slice (some ⟨gw, 0, none⟩) 4 4), (fun vs u => vs 6 = .pointer (some ⟨gw, 1, none⟩)), (fun vs u => vs 7 = .string a), (fun vs u => vs 8 = .slice (some ⟨gw, 0, none⟩) 4 4), (fun vs u => vs 9 = .pointer (some ⟨gw, 0, none⟩)), (fun vs u => vs 10 = .string x), (fun vs u => vs 11 = .bool bo), (fun vs u => vs 12 = .agg #[.string c, .string a, .bool bo]), (fun vs u => ∃ q : Nat, vs 13 = .slice (some ⟨q, 0, none⟩) 1 1 ∧ u.heap[q]? = some (.cells #[.string c, .string a, .bool bo] 51 (0, 0)))]
        [[], [0], [], [2], [2, 3], [], [5], [5, 6], [], [8], [8, 9], [8, 9, 10], [2, 3, 4, 5, 6, 7, 8, 9, 10, 11], [2, 3, 4, 5, 6, 7, 8, 9, 10, 11, 12]] [some 82, some 83, some 84, some 85, some 86, some 87, some 88, some 89, some 90, some 91, some 92, some 93, some 94, some 95, some 96, some 97, none] [13] (fun _ _ => True) [[], [0], [], [2], [2, 3], [], [5], [5, 6], [], [8], [8, 9], [8, 9, 10], [2, 3, 4, 5, 6, 7, 8, 9, 10, 11], [2, 3, 4, 5, 6, 7, 8, 9, 10, 11, 12], [0, 1, 2, 3, 4, 5, 6, 7, 8, 9, 10, 11, 12, 13], [0, 1, 2, 3, 4, 5, 6, 7, 8, 9, 10, 11, 12, 13, 14], [0, 1, 2, 3, 4, 5, 6, 7, 8, 9, 10, 11, 12, 13, 14, 15]]
        (by kernel_rfl) (by decide) (by kernel_rfl) (by kernel_rfl) (by kernel_rfl) (by kernel_rfl) (by kernel_rfl) (fun _ => Below.refl _ _) (fun _ _ _ h k => h.ext k) (fun _ _ h => h.size) ?_ trivial ?_ ?_
      · intro t ht vs w w' h hE
        simp only [List.mem_cons, List.not_mem_nil, or_false] at ht
        rcases ht with rfl | rfl | rfl | rfl | rfl | rfl | rfl | rfl | rfl | rfl | rfl | rfl | rfl | rfl
        · exact h
        · exact h
        · exact h
        · exact h
        · exact h
        · exact h
        · exact h
        · exact h
        · exact h
        · exact h
        · exact h
        · exact h
        · exact h
        · obtain ⟨q, e, k⟩ := h
          exact ⟨q, e, blk_below hE k⟩
      ·
        refine Rg.cons 0 1 rfl (Rg.plain rfl ?_) ?_
        · intro vs W n hn hI hG hT hF K hK
          simp only [Rg.putsD, List.getD_cons_zero, List.getD_cons_succ, Act.put, List.setIfInBounds_toArray, List.set_cons_zero, List.set_cons_succ] at hK ⊢
          clear hn
          clear hF hI
          have H := Lib.hid hK
          clear hK hT
          go_simp
          exact H.out _ _ (Below.refl _ _) rfl (fun h => by cases h) trivial
        refine Rg.cons 1 2 rfl (Rg.plain rfl ?_) ?_
        · intro vs W n hn hI hG hT hF K hK
          simp only [Rg.putsD, List.getD_cons_zero, List.getD_cons_succ, Act.put, List.setIfInBounds_toArray, List.set_cons_zero, List.set_cons_succ] at hK ⊢
          clear hn
          clear hF hI
          have t0 : vs 0 = .pointer (some ⟨cb, 1, none⟩) := hT 0 (by decide)
          obtain ⟨c0, c1, _, _⟩ := blk2 (blk_below hG H1.out.2.1)
          have hcl := lt_of_blk (blk_below hG H1.out.2.1)
          simp only [t0] at hK
          have H := Lib.hid hK
          clear hK hT
          go_simp
          exact H.out _ _ (Below.refl _ _) rfl (fun h => by cases h) trivial
        refine Rg.cons 2 3 rfl (Rg.plain rfl ?_) ?_
        · intro vs W n hn hI hG hT hF K hK
          simp only [Rg.putsD, List.getD_cons_zero, List.getD_cons_succ, Act.put, List.setIfInBounds_toArray, List.set_cons_zero, List.set_cons_succ] at hK ⊢
          clear hn
          clear hF hI
          have H := Lib.hid hK
          clear hK hT
          go_simp
          exact H.out _ _ (Below.refl _ _) rfl (fun h => by cases h) trivial
        refine Rg.cons 3 4 rfl (Rg.plain rfl ?_) ?_
        · intro vs W n hn hI hG hT hF K hK
          simp only [Rg.putsD, List.getD_cons_zero, List.getD_cons_succ, Act.put, List.setIfInBounds_toArray, List.set_cons_zero, List.set_cons_succ] at hK ⊢
          clear hn
          clear hF hI
          have t2 : vs 2 = .slice (some ⟨gw, 0, none⟩) 4 4 := hT 2 (by decide)
          simp only [t2] at hK
          have H := Lib.hid hK
          clear hK hT
          go_simp
          exact H.out _ _ (Below.refl _ _) rfl (fun h => by cases h) trivial
        refine Rg.cons 4 5 rfl (Rg.plain rfl ?_) ?_
        · intro vs W n hn hI hG hT hF K hK
          simp only [Rg.putsD, List.getD_cons_zero, List.getD_cons_succ, Act.put, List.setIfInBounds_toArray, List.set_cons_zero, List.set_cons_succ] at hK ⊢
          clear hn
          clear hF hI
          have t2 : vs 2 = .slice (some ⟨gw, 0, none⟩) 4 4 := hT 2 (by decide)
          have t3 : vs 3 = .pointer (some ⟨gw, 3, none⟩) := hT 3 (by decide)
          have c0 := (hG.cell (p := ⟨gw, 3, none⟩) qg).trans HN.out.2.2
          simp only [t2, t3] at hK
          have H := Lib.hid hK
          clear hK hT
          go_simp
          exact H.out _ _ (Below.refl _ _) rfl (fun h => by cases h) trivial
        refine Rg.cons 5 6 rfl (Rg.plain rfl ?_) ?_
        · intro vs W n hn hI hG hT hF K hK
          simp only [Rg.putsD, List.getD_cons_zero, List.getD_cons_succ, Act.put, List.setIfInBounds_toArray, List.set_cons_zero, List.set_cons_succ] at hK ⊢
          clear hn
          clear hF hI
          have H := Lib.hid hK
          clear hK hT
          go_simp
          exact H.out _ _ (Below.refl _ _) rfl (fun h => by cases h) trivial
        refine Rg.cons 6 7 rfl (Rg.plain rfl ?_) ?_
        · intro vs W n hn hI hG hT hF K hK
          simp only [Rg.putsD, List.getD_cons_zero, List.getD_cons_succ, Act.put, List.setIfInBounds_toArray, List.set_cons_zero, List.set_cons_succ] at hK ⊢
          clear hn
          clear hF hI
          have t5 : vs 5 = .slice (some ⟨gw, 0, none⟩) 4 4 := hT 5 (by decide)
          simp only [t5] at hK
          have H := Lib.hid hK
          clear hK hT
          go_simp
          exact H.out _ _ (Below.refl _ _) rfl (fun h => by cases h) trivial
        refine Rg.cons 7 8 rfl (Rg.plain rfl ?_) ?_
        · intro vs W n hn hI hG hT hF K hK
          simp only [Rg.putsD, List.getD_cons_zero, List.getD_cons_succ, Act.put, List.setIfInBounds_toArray, List.set_cons_zero, List.set_cons_succ] at hK ⊢
          clear hn
          clear hF hI
          have t5 : vs 5 = .slice (some ⟨gw, 0, none⟩) 4 4 := hT 5 (by decide)
          have t6 : vs 6 = .pointer (some ⟨gw, 1, none⟩) := hT 6 (by decide)
          have c0 := (hG.cell (p := ⟨gw, 1, none⟩) qg).trans HN.out.2.1
          simp only [t5, t6] at hK
          have H := Lib.hid hK
          clear hK hT
          go_simp
          exact H.out _ _ (Below.refl _ _) rfl (fun h => by cases h) trivial
        refine Rg.cons 8 9 rfl (Rg.plain rfl ?_) ?_
        · intro vs W n hn hI hG hT hF K hK
          simp only [Rg.putsD, List.getD_cons_zero, List.getD_cons_succ, Act.put, List.setIfInBounds_toArray, List.set_cons_zero, List.set_cons_succ] at hK ⊢
          clear hn
          clear hF hI
          have H := Lib.hid hK
          clear hK hT
          go_simp
          exact H.out _ _ (Below.refl _ _) rfl (fun h => by cases h) trivial
        refine Rg.cons 9 10 rfl (Rg.plain rfl ?_) ?_
        · intro vs W n hn hI hG hT hF K hK
          simp only [Rg.putsD, List.getD_cons_zero, List.getD_cons_succ, Act.put, List.setIfInBounds_toArray, List.set_cons_zero, List.set_cons_succ] at hK ⊢
          clear hn
          clear hF hI
          have t8 : vs 8 = .slice (some ⟨gw, 0, none⟩) 4 4 := hT 8 (by decide)
          simp only [t8] at hK
          have H := Lib.hid hK
          clear hK hT
          go_simp
          exact H.out _ _ (Below.refl _ _) rfl (fun h => by cases h) trivial
        refine Rg.cons 10 11 rfl (Rg.plain rfl ?_) ?_
        · intro vs W n hn hI hG hT hF K hK
          simp only [Rg.putsD, List.getD_cons_zero, List.getD_cons_succ, Act.put, List.setIfInBounds_toArray, List.set_cons_zero, List.set_cons_succ] at hK ⊢
          clear hn
          clear hF hI
          have t8 : vs 8 = .slice (some ⟨gw, 0, none⟩) 4 4 := hT 8 (by decide)
          have t9 : vs 9 = .pointer (some ⟨gw, 0, none⟩) := hT 9 (by decide)
          have c0 := (hG.cell (p := ⟨gw, 0, none⟩) qg).trans HN.out.1
          simp only [t8, t9] at hK
          have H := Lib.hid hK
          clear hK hT
          go_simp
          exact H.out _ _ (Below.refl _ _) rfl (fun h => by cases h) trivial
        refine Rg.cons 11 12 rfl (Rg.plain rfl ?_) ?_
        · intro vs W n hn hI hG hT hF K hK
          simp only [Rg.putsD, List.getD_cons_zero, List.getD_cons_succ, Act.put, List.setIfInBounds_toArray, List.set_cons_zero, List.set_cons_succ] at hK ⊢
          clear hn
          clear hF hI
          have t8 : vs 8 = .slice (some ⟨gw, 0, none⟩) 4 4 := hT 8 (by decide)
          have t9 : vs 9 = .pointer (some ⟨gw, 0, none⟩) := hT 9 (by decide)
          have t10 : vs 10 = .string x := hT 10 (by decide)
          simp only [t8, t9, t10] at hK
          have H := Lib.hid hK
          clear hK hT
          go_simp
          exact H.out _ _ (Below.refl _ _) rfl (fun h => by cases h) trivial
        refine Rg.cons 12 13 rfl (Rg.plain rfl ?_) ?_
        · intro vs W n hn hI hG hT hF K hK
          simp only [Rg.putsD, List.getD_cons_zero, List.getD_cons_succ, Act.put, List.setIfInBounds_toArray, List.set_cons_zero, List.set_cons_succ] at hK ⊢
          clear hn
          clear hF hI
          have t2 : vs 2 = .slice (some ⟨gw, 0, none⟩) 4 4 := hT 2 (by decide)
          have t3 : vs 3 = .pointer (some ⟨gw, 3, none⟩) := hT 3 (by decide)
          have t4 : vs 4 = .string c := hT 4 (by decide)
          have t5 : vs 5 = .slice (some ⟨gw, 0, none⟩) 4 4 := hT 5 (by decide)
          have t6 : vs 6 = .pointer (some ⟨gw, 1, none⟩) := hT 6 (by decide)
          have t7 : vs 7 = .string a := hT 7 (by decide)
          have t8 : vs 8 = .slice (some ⟨gw, 0, none⟩) 4 4 := hT 8 (by decide)
          have t9 : vs 9 = .pointer (some ⟨gw, 0, none⟩) := hT 9 (by decide)
          have t10 : vs 10 = .string x := hT 10 (by decide)
          have t11 : vs 11 = .bool bo := hT 11 (by decide)
          simp only [t2, t3, t4, t5, t6, t7, t8, t9, t10, t11] at hK
          have H := Lib.hid hK
          clear hK hT
          go_simp
          exact H.out _ _ (Below.refl _ _) rfl (fun h => by cases h) trivial
        refine Rg.cons 13 14 rfl (Rg.plain rfl ?_) ?_
        · intro vs W n hn hI hG hT hF K hK
          simp only [Rg.putsD, List.getD_cons_zero, List.getD_cons_succ, Act.put, List.setIfInBounds_toArray, List.set_cons_zero, List.set_cons_succ] at hK ⊢
          clear hn
          clear hF hI
          have t2 : vs 2 = .slice (some ⟨gw, 0, none⟩) 4 4 := hT 2 (by decide)
          have t3 : vs 3 = .pointer (some ⟨gw, 3, none⟩) := hT 3 (by decide)
          have t4 : vs 4 = .string c := hT 4 (by decide)
          have t5 : vs 5 = .slice (some ⟨gw, 0, none⟩) 4 4 := hT 5 (by decide)
          have t6 : vs 6 = .pointer (some ⟨gw, 1, none⟩) := hT 6 (by decide)
          have t7 : vs 7 = .string a := hT 7 (by decide)
          have t8 : vs 8 = .slice (some ⟨gw, 0, none⟩) 4 4 := hT 8 (by decide)
          have t9 : vs 9 = .pointer (some ⟨gw, 0, none⟩) := hT 9 (by decide)
          have t10 : vs 10 = .string x := hT 10 (by decide)
          have t11 : vs 11 = .bool bo := hT 11 (by decide)
          have t12 : vs 12 = .agg #[.string c, .string a, .bool bo] := hT 12 (by decide)
          simp only [t2, t3, t4, t5, t6, t7, t8, t9, t10, t11, t12] at hK
          have H := Lib.hid hK
          clear hK hT
          go_simp
          exact H.out _ _ ((Below.refl _ _).alloc (Nat.le_refl _) _) (show ∃ q : Nat, _ = _ ∧ _ = _ from ⟨_, rfl, blk_new W _ rfl⟩) (fun _ => ⟨W.heap.size, rfl, Nat.le_refl _, by simp⟩) trivial
        exact Rg.nil
      · intro vs W hG hI hT hF
        have t0 : vs 0 = .pointer (some ⟨cb, 1, none⟩) := hT 0 (by decide)
        have t1 : vs 1 = .slice A2 st.2.length k2 := hT 1 (by decide)
        have t2 : vs 2 = .slice (some ⟨gw, 0, none⟩) 4 4 := hT 2 (by decide)
        have t3 : vs 3 = .pointer (some ⟨gw, 3, none⟩) := hT 3 (by decide)
        have t4 : vs 4 = .string c := hT 4 (by decide)
        have t5 : vs 5 = .slice (some ⟨gw, 0, none⟩) 4 4 := hT 5 (by decide)
        have t6 : vs 6 = .pointer (some ⟨gw, 1, none⟩) := hT 6 (by decide)
        have t7 : vs 7 = .string a := hT 7 (by decide)
        have t8 : vs 8 = .slice (some ⟨gw, 0, none⟩) 4 4 := hT 8 (by decide)
        have t9 : vs 9 = .pointer (some ⟨gw, 0, none⟩) := hT 9 (by decide)
        have t10 : vs 10 = .string x := hT 10 (by decide)
        have t11 : vs 11 = .bool bo := hT 11 (by decide)
        have t12 : vs 12 = .agg #[.string c, .string a, .bool bo] := hT 12 (by decide)
        have t13 : ∃ q : Nat, vs 13 = .slice (some ⟨q, 0, none⟩) 1 1 ∧ W.heap[q]? = some (.cells #[.string c, .string a, .bool bo] 51 (0, 0)) := hT 13 (by decide)
        simp only [List.length_cons, List.length_nil, Nat.reduceAdd, List.range, List.range.loop, List.drop_succ_cons, List.drop_zero, Rg.putsD, List.getD_cons_zero, List.getD_cons_succ, Act.put, List.setIfInBounds_toArray, List.set_cons_zero, List.set_cons_succ, t0, t1, t2, t3, t4, t5, t6, t7, t8, t9, t10, t11, t12]
        clear hT t0 t1 t2 t3 t4 t5 t6 t7 t8 t9 t10 t11 t12
        obtain ⟨bq, e8, k8⟩ := t13
        have hszd : w1.heap.size ≤ W.heap.size := hG.size
        have HW : Hid (Below base w W ∧ W.ownsRow (cb + 1) 51 3 (.slice A2 st.2.length k2) st.2.length (st.2.flatMap encAl) ∧ W.heap[cb]? = some (.cells #[.slice A1 st.1.length k1, .slice A2 st.2.length k2] 29 (0, 0)) ∧ W.heap[bq]? = some (.cells #[.string c, .string a, .bool bo] 51 (0, 0)) ∧ W.ownsRow (cb + 1) 47 4 (.slice A1 st.1.length k1) st.1.length (st.1.flatMap encPa)) :=
          ⟨(H1.out.1.drew).then_below hG (by have := H1.out.1.size; show base ≤ w1.heap.size; omega), own_below (w := w1.drew) H1.out.2.2.2.drew hG, blk_below hG H1.out.2.1, k8, own_below (w := w1.drew) H1.out.2.2.1.drew hG⟩
        have E8 := Lib.hid e8
        have hcW : cb + 1 ≤ W.heap.size := lt_of_blk HW.out.2.2.1
        clear hF hI e8 k8 hG
        simp only [E8.out]
        refine wpList_append_own _ rfl _ _ 27 rfl (cb + 1) 51 i0 _ 3 40 Tryz.underlying27 HIF.out.1 HIF.out.2.1 HIF.out.2.2.1 HIF.out.2.2.2 rfl (by omega) _ st.2.length (st.2.flatMap encAl) rfl HW.out.2.1 ⟨bq, 0, none⟩ 1 1 [.string c, .string a, .bool bo] rfl rfl ?c1 (by intro u hu; simp at hu; rcases hu with rfl | rfl | rfl <;> rfl) ?c2 ?c3 hcW ?_
        case c1 =>
          intro q u hu
          rw [addr_new, cell_of_blk HW.out.2.2.2.1]
          simpa using hu
        case c2 => unfold maxLen; omega
        case c3 => omega
        intro v' w4 hown' hg' _
        obtain ⟨A9, c9, rfl, _, _⟩ := own_slice' hown'
        have b4 := (hg'.block cb (by omega) (fun e => by have := own_row HW.out.2.1 cb e.symm; omega)).trans HW.out.2.2.1
        obtain ⟨_, p4, _, f4⟩ := blk2 b4
        have h4l := lt_of_blk b4
        have HV : Hid (Below base w w4 ∧ w4.ownsRow (cb + 1) 51 3 (.slice A9 (st.2.length + 1) c9) (st.2.length + 1) (st.2.flatMap encAl ++ [.string c, .string a, .bool bo]) ∧ w4.heap[cb]? = some (.cells #[.slice A1 st.1.length k1, .slice A2 st.2.length k2] 29 (0, 0)) ∧ w4.ownsRow (cb + 1) 47 4 (.slice A1 st.1.length k1) st.1.length (st.1.flatMap encPa)) :=
          ⟨HW.out.1.grown hg' (by omega) (fun k hk => by have := own_row HW.out.2.1 k hk; omega), hown', b4, HW.out.2.2.2.2.kept hg' (own_apart HW.out.2.2.2.2 HW.out.2.1 (by decide))⟩
        clear hown' hg' b4 HW
        go_wp2_with fail
        have HF : Hid (Below base w (w4.setCell ⟨cb, 1, none⟩ (.slice A9 (st.2.length + 1) c9)) ∧ CatAt cb (i + 1) (st.1, st.2 ++ [⟨c, a, bo⟩]) (w4.setCell ⟨cb, 1, none⟩ (.slice A9 (st.2.length + 1) c9))) := by
          refine ⟨HV.out.1.setCell hcb _, ⟨_, _, blk_set HV.out.2.2.1 _, own_far HV.out.2.2.2 (p := ⟨cb, 1, none⟩) (by show cb < cb + 1; omega) _, ?_⟩, ?_, HS9.out.1, ?_⟩
          · have := own_far HV.out.2.1 (p := ⟨cb, 1, none⟩) (by show cb < cb + 1; omega) (.slice A9 (st.2.length + 1) c9)
            rw [List.length_append, flatAl_snoc]
            exact this
          · rw [List.length_append]
            show st.1.length + (st.2.length + 1) ≤ i + 1
            omega
          · intro p hp
            rcases List.mem_append.mp hp with hp | hp
            · exact HS9.out.2 p hp
            · have : p = ⟨c, a, bo⟩ := by simpa using hp
              subst this
              exact HZC.out
        generalize w4.setCell ⟨cb, 1, none⟩ (.slice A9 (st.2.length + 1) c9) = w3 at *
        go_wp2_with fail
        go_ret
        exact ⟨by rw [HR.out]; rfl, HF.out.1, fun st' h => by rw [HR.out] at h; cases h; exact ⟨HF.out.2, HGL.out.below HF.out.1 hlow⟩⟩
  by_cases h5 : ws.length = 5
  rotate_left
  · have HR := Lib.hid (HSW2.out.trans (takeCat_other h4 h5))
    have hne4 : ((ws.length : Int) == 4) = false := by simp; omega
    have hne5 : ((ws.length : Int) == 5) = false := by simp; omega
    clear HSW2
    go_enter Tryz.func41, Tryz.ntmps41
    (go_wp2_with fail; refine CW.out.mono ?_; rintro e w1 ⟨rfl, b1, hrf⟩; obtain ⟨_, _, ew, _, hrw⟩ := hrf; cases ew; have HB := Lib.hid (b1.mono hbw); obtain ⟨p0, p1, _, _⟩ := blk2 (blk_below b1 HBK.out); have hcbl := lt_of_blk (blk_below b1 HBK.out); have QW := Lib.hid (words_at hrw); clear b1 hrw)
    go_wp2_with fail
    go_ret
    exact ⟨by rw [HR.out]; rfl, HB.out, fun st' h => by rw [HR.out] at h; cases h⟩
  obtain ⟨x, a, b, c, d, rfl⟩ := len5 h5
  have HT := Lib.hid (HSW2.out.trans takeCat_five)
  clear HSW2 h4 h5
  unfold isPart at HT
  simp only [List.length_cons, List.length_nil, Nat.zero_add, Nat.reduceAdd] at CW
  cases hx : (x.toList == [112, 97, 114, 116])
  · have HR := Lib.hid (HT.out.trans (if_neg (fun h => by rw [hx] at h; cases h.1.1)))
    clear HT
    go_enter Tryz.func41, Tryz.ntmps41
    (go_wp2_with fail; refine CW.out.mono ?_; rintro e w1 ⟨rfl, b1, hrf⟩; obtain ⟨_, _, ew, _, hrw⟩ := hrf; cases ew; have HB := Lib.hid (b1.mono hbw); obtain ⟨p0, p1, _, _⟩ := blk2 (blk_below b1 HBK.out); have hcbl := lt_of_blk (blk_below b1 HBK.out); have QW := Lib.hid (words_at hrw); clear b1 hrw)
    have q0 := (QW.out.resolve_left (by simp)).2 0 (by simp)
    have qg := (QW.out.resolve_left (by simp)).1
    simp only [List.getElem_cons_zero, List.getElem_cons_succ] at q0
    go_wp2_with fail
    go_ret
    exact ⟨by rw [HR.out]; rfl, HB.out, fun st' h => by rw [HR.out] at h; cases h⟩
  by_cases hs2 : st.2.length = 0
  rotate_left
  · have HR := Lib.hid (HT.out.trans (if_neg (fun h => hs2 h.1.2)))
    have hs3 : ((st.2.length : Int) == 0) = false := beq_eq_false_iff_ne.mpr (by omega)
    clear HT
    go_enter Tryz.func41, Tryz.ntmps41
    (go_wp2_with fail; refine CW.out.mono ?_; rintro e w1 ⟨rfl, b1, hrf⟩; obtain ⟨_, _, ew, _, hrw⟩ := hrf; cases ew; have HB := Lib.hid (b1.mono hbw); obtain ⟨p0, p1, _, _⟩ := blk2 (blk_below b1 HBK.out); have hcbl := lt_of_blk (blk_below b1 HBK.out); have QW := Lib.hid (words_at hrw); clear b1 hrw)
    have q0 := (QW.out.resolve_left (by simp)).2 0 (by simp)
    have qg := (QW.out.resolve_left (by simp)).1
    simp only [List.getElem_cons_zero, List.getElem_cons_succ] at q0
    go_wp2_with fail
    go_ret
    exact ⟨by rw [HR.out]; rfl, HB.out, fun st' h => by rw [HR.out] at h; cases h⟩
  have hs3 : ((st.2.length : Int) == 0) = true := beq_iff_eq.mpr (by omega)
  have CN := Lib.hid (fun (W : World) (v : Value) (h : StrsAt v [c, d] W) (hG : Gl W) (hw : gLow ≤ W.heap.size) => numbersR_any [c, d] 15 (by omega) (by simp) (fun z hz => by have := HWZ.out z (by simp at hz; rcases hz with rfl | rfl <;> simp); omega) h hG hw)
  go_enter Tryz.func41, Tryz.ntmps41
  go_wp2_with fail
  refine CW.out.mono ?_
  rintro e w2 ⟨rfl, b2, hrf⟩
  obtain ⟨_, _, ew, _, hrw⟩ := hrf
  cases ew
  obtain ⟨qg, qq⟩ := (words_at hrw).resolve_left (by simp)
  have q0 := qq 0 (by simp)
  have q1 := qq 1 (by simp)
  have q2 := qq 2 (by simp)
  have q3 := qq 3 (by simp)
  have q4 := qq 4 (by simp)
  simp only [List.getElem_cons_zero, List.getElem_cons_succ] at q0 q1 q2 q3 q4
  have HS3 : Hid (StrsAt (.slice (some ⟨w.heap.size, 3, none⟩) 2 2) [c, d] w2) := ⟨_, 2, rfl, Nat.le_refl _, .inr ⟨w.heap.size, 3, rfl, qg, fun j hj => by
    match j, hj with
    | 0, _ => exact q3
    | 1, _ => exact q4⟩⟩
  have HG2 := Lib.hid (And.intro (hG.below b2 (by omega)) b2.size)
  have CX := Lib.hid (CN.out w2 _ HS3.out HG2.out.1 (by have := HG2.out.2; omega))
  obtain ⟨p0, p1, _, _⟩ := blk2 (blk_below b2 HBK.out)
  have hcbl := lt_of_blk (blk_below b2 HBK.out)
  have HB2 := Lib.hid b2
  have HQ := Lib.hid (And.intro q1 q2)
  clear CN CW b2 hrw qq q1 q2 q3 q4 HS3
  go_wp2_with fail
  refine CX.out.mono ?_
  rintro e w1 ⟨u, rfl, b1, lu, hlu2, hru, hln⟩
  obtain ⟨nx, ny, rfl⟩ : ∃ nx ny, lu = [nx, ny] := by
    match lu, hlu2 with
    | [a, b], _ => exact ⟨a, b, rfl⟩
  obtain ⟨Au, cu, rfl, hcu, hru⟩ := hru
  obtain ⟨gn, rfl, hgn, hlu⟩ : ∃ gn : Nat, Au = some ⟨gn, 0, none⟩ ∧ w2.heap.size ≤ gn ∧ LineAt w1 gn ([nx, ny].flatMap encZ) := by
    rcases hru with hru | hru
    · cases hru
    · exact hru
  have n0 : w1.cell? ⟨gn, 0, none⟩ = some (.int .i64 nx) := row_intz hlu (k := 0) (by simp)
  have n1 : w1.cell? ⟨gn, 1, none⟩ = some (.int .i64 ny) := row_intz hlu (k := 1) (by simp)
  have hgnl := hlu.1
  have hb1 : Below w.heap.size w w1 := HB2.out.then_below b1 HB2.out.size
  have H1 : Hid (Below base w w1 ∧ w1.heap[cb]? = some (.cells #[.slice A1 st.1.length k1, .slice A2 st.2.length k2] 29 (0, 0)) ∧ w1.ownsRow (cb + 1) 47 4 (.slice A1 st.1.length k1) st.1.length (st.1.flatMap encPa) ∧ w1.ownsRow (cb + 1) 51 3 (.slice A2 st.2.length k2) st.2.length (st.2.flatMap encAl)) :=
    ⟨hb1.mono hbw, blk_below hb1 HBK.out, own_below HO.out.1 hb1, own_below HO.out.2 hb1⟩
  have HNN : Hid (numsB 15 [c, d] = true → nx = numI 15 c ∧ ny = numI 15 d) := fun h => by
    have := hln h
    simp [numsI] at this
    exact this
  have HN := Lib.hid (And.intro ((b1.cell (p := ⟨w.heap.size, 1, none⟩) qg).trans HQ.out.1) (And.intro ((b1.cell (p := ⟨w.heap.size, 2, none⟩) qg).trans HQ.out.2) (And.intro n0 n1)))
  have qg1 : w.heap.size < w1.heap.size := Nat.lt_of_lt_of_le qg b1.size
  have HZC := Lib.hid (And.intro (HWZ.out a (by simp)) (HWZ.out b (by simp)))
  have hcw : cb + 1 ≤ w.heap.size := hcb0
  clear p0 p1 hcbl
  have hcbl := lt_of_blk H1.out.2.1
  have hpl2 : st.1.length ≤ 200000 := by omega
  have hgn2 : w.heap.size ≤ gn := by have := HB2.out.size; omega
  generalize hgw : w.heap.size = gw at *
  have hne1 : gw ≠ cb := by omega
  have hne2 : gn ≠ cb := by omega
  clear hgw
  generalize numsB 15 [c, d] = bb at *
  have HGL := Lib.hid hG
  obtain ⟨i0, hi0, hz0, hzz1, hzz2⟩ := info_parts part_info
  have HIF := Lib.hid (And.intro hi0 (And.intro hz0 (And.intro hzz1 hzz2)))
  clear b1 hru hlu CX hi0 hz0 hzz1 hzz2 n0 n1 hln hb1 hlu2 q0 HQ HB2 qg HG2
  go_upto_region 4 with (fail)
  refine Rg.rgL (fun a b => Below a.heap.size a b)
    [(fun vs u => vs 0 = .pointer (some ⟨cb, 0, none⟩)), (fun vs u => vs 1 = .slice A1 st.1.length k1), (fun vs u => vs 2 = .slice (some ⟨gw, 0, none⟩) 5 5), (fun vs u => vs 3 = .pointer (some ⟨gw, 1, none⟩)), (fun vs u => vs 4 = .string a), (fun vs u => vs 5 = .slice (some ⟨gw, 0, none⟩) 5 5), (fun vs u => vs 6 = .pointer (some ⟨gw, 2, none⟩)), (fun vs u => vs 7 = .string b), (fun vs u => vs 8 = .slice (some ⟨gn, 0, none⟩) 2 cu), (fun vs u => vs 9 = .pointer (some ⟨gn, 0, none⟩)), (fun vs u => vs 10 = .int .i64 nx), (fun vs u => vs 11 = .slice (some ⟨gn, 0, none⟩) 2 cu), (fun vs u => vs 12 = .pointer (some ⟨gn, 1, none⟩)), (fun vs u => vs 13 = .int .i64 ny), (fun vs u => vs 14 = .agg #[.string a, .string b, .int .i64 nx, .int .i64 ny]), (fun vs u => ∃ q : Nat, vs 15 = .slice (some ⟨q, 0, none⟩) 1 1 ∧ u.heap[q]? = some (.cells #[.string a, .string b, .int .i64 nx, .int .i64 ny] 47 (0, 0)))]
    [[], [0], [], [2], [2, 3], [], [5], [5, 6], [], [8], [8, 9], [], [11], [11, 12], [2, 3, 4, 5, 6, 7, 8, 9, 10, 11, 12, 13], [2, 3, 4, 5, 6, 7, 8, 9, 10, 11, 12, 13, 14]] [some 38, some 39, some 40, some 41, some 42, some 43, some 44, some 45, some 46, some 47, some 48, some 49, some 50, some 51, some 52, some 53, some 54, some 55, none] [15] (fun _ _ => True) [[], [0], [], [2], [2, 3], [], [5], [5, 6], [], [8], [8, 9], [], [11], [11, 12], [2, 3, 4, 5, 6, 7, 8, 9, 10, 11, 12, 13], [2, 3, 4, 5, 6, 7, 8, 9, 10, 11, 12, 13, 14], [0, 1, 2, 3, 4, 5, 6, 7, 8, 9, 10, 11, 12, 13, 14, 15], [0, 1, 2, 3, 4, 5, 6, 7, 8, 9, 10, 11, 12, 13, 14, 15, 16], [0, 1, 2, 3, 4, 5, 6, 7, 8, 9, 10, 11, 12, 13, 14, 15, 16, 17]]
    (by kernel_rfl) (by decide) (by kernel_rfl) (by kernel_rfl) (by kernel_rfl) (by kernel_rfl) (by kernel_rfl) (fun _ => Below.refl _ _) (fun _ _ _ h k => h.ext k) (fun _ _ h => h.size) ?_ trivial ?_ ?_
  · intro t ht vs w w' h hE
    simp only [List.mem_cons, List.not_mem_nil, or_false] at ht
    rcases ht with rfl | rfl | rfl | rfl | rfl | rfl | rfl | rfl | rfl | rfl | rfl | rfl | rfl | rfl | rfl | rfl
    · exact h
    · exact h
    · exact h
    · exact h
    · exact h
    · exact h
    · exact h
    · exact h
    · exact h
    · exact h
    · exact h
    · exact h
    · exact h
    · exact h
    · exact h
    · obtain ⟨q, e, k⟩ := h
      exact ⟨q, e, blk_below hE k⟩
  ·
    refine Rg.cons 0 1 rfl (Rg.plain rfl ?_) ?_
    · intro vs W n hn hI hG hT hF K hK
      simp only [Rg.putsD, List.getD_cons_zero, List.getD_cons_succ, Act.put, List.setIfInBounds_toArray, List.set_cons_zero, List.set_cons_succ] at hK ⊢
      clear hn
      clear hF hI
      have H := Lib.hid hK
      clear hK hT
      go_simp
      exact H.out _ _ (Below.refl _ _) rfl (fun h => by cases h) trivial
    refine Rg.cons 1 2 rfl (Rg.plain rfl ?_) ?_
    · intro vs W n hn hI hG hT hF K hK
      simp only [Rg.putsD, List.getD_cons_zero, List.getD_cons_succ, Act.put, List.setIfInBounds_toArray, List.set_cons_zero, List.set_cons_succ] at hK ⊢
      clear hn
      clear hF hI
      have t0 : vs 0 = .pointer (some ⟨cb, 0, none⟩) := hT 0 (by decide)
      obtain ⟨c0, c1, _, _⟩ := blk2 (blk_below hG H1.out.2.1)
      have hcl := lt_of_blk (blk_below hG H1.out.2.1)
      simp only [t0] at hK
      have H := Lib.hid hK
      clear hK hT
      go_simp
      exact H.out _ _ (Below.refl _ _) rfl (fun h => by cases h) trivial
    refine Rg.cons 2 3 rfl (Rg.plain rfl ?_) ?_
    · intro vs W n hn hI hG hT hF K hK
      simp only [Rg.putsD, List.getD_cons_zero, List.getD_cons_succ, Act.put, List.setIfInBounds_toArray, List.set_cons_zero, List.set_cons_succ] at hK ⊢
      clear hn
      clear hF hI
      have H := Lib.hid hK
      clear hK hT
      go_simp
      exact H.out _ _ (Below.refl _ _) rfl (fun h => by cases h) trivial
    refine Rg.cons 3 4 rfl (Rg.plain rfl ?_) ?_
    · intro vs W n hn hI hG hT hF K hK
      simp only [Rg.putsD, List.getD_cons_zero, List.getD_cons_succ, Act.put, List.setIfInBounds_toArray, List.set_cons_zero, List.set_cons_succ] at hK ⊢
      clear hn
      clear hF hI
      have t2 : vs 2 = .slice (some ⟨gw, 0, none⟩) 5 5 := hT 2 (by decide)
      simp only [t2] at hK
      have H := Lib.hid hK
      clear hK hT
      go_simp
      exact H.out _ _ (Below.refl _ _) rfl (fun h => by cases h) trivial
    refine Rg.cons 4 5 rfl (Rg.plain rfl ?_) ?_
    · intro vs W n hn hI hG hT hF K hK
      simp only [Rg.putsD, List.getD_cons_zero, List.getD_cons_succ, Act.put, List.setIfInBounds_toArray, List.set_cons_zero, List.set_cons_succ] at hK ⊢
      clear hn
      clear hF hI
      have t2 : vs 2 = .slice (some ⟨gw, 0, none⟩) 5 5 := hT 2 (by decide)
      have t3 : vs 3 = .pointer (some ⟨gw, 1, none⟩) := hT 3 (by decide)
      have c0 := (hG.cell (p := ⟨gw, 1, none⟩) qg1).trans HN.out.1
      simp only [t2, t3] at hK
      have H := Lib.hid hK
      clear hK hT
      go_simp
      exact H.out _ _ (Below.refl _ _) rfl (fun h => by cases h) trivial
    refine Rg.cons 5 6 rfl (Rg.plain rfl ?_) ?_
    · intro vs W n hn hI hG hT hF K hK
      simp only [Rg.putsD, List.getD_cons_zero, List.getD_cons_succ, Act.put, List.setIfInBounds_toArray, List.set_cons_zero, List.set_cons_succ] at hK ⊢
      clear hn
      clear hF hI
      have H := Lib.hid hK
      clear hK hT
      go_simp
      exact H.out _ _ (Below.refl _ _) rfl (fun h => by cases h) trivial
    refine Rg.cons 6 7 rfl (Rg.plain rfl ?_) ?_
    · intro vs W n hn hI hG hT hF K hK
      simp only [Rg.putsD, List.getD_cons_zero, List.getD_cons_succ, Act.put, List.setIfInBounds_toArray, List.set_cons_zero, List.set_cons_succ] at hK ⊢
      clear hn
      clear hF hI
      have t5 : vs 5 = .slice (some ⟨gw, 0, none⟩) 5 5 := hT 5 (by decide)
      simp only [t5] at hK
      have H := Lib.hid hK
      clear hK hT
      go_simp
      exact H.out _ _ (Below.refl _ _) rfl (fun h => by cases h) trivial
    refine Rg.cons 7 8 rfl (Rg.plain rfl ?_) ?_
    · intro vs W n hn hI hG hT hF K hK
      simp only [Rg.putsD, List.getD_cons_zero, List.getD_cons_succ, Act.put, List.setIfInBounds_toArray, List.set_cons_zero, List.set_cons_succ] at hK ⊢
      clear hn
      clear hF hI
      have t5 : vs 5 = .slice (some ⟨gw, 0, none⟩) 5 5 := hT 5 (by decide)
      have t6 : vs 6 = .pointer (some ⟨gw, 2, none⟩) := hT 6 (by decide)
      have c0 := (hG.cell (p := ⟨gw, 2, none⟩) qg1).trans HN.out.2.1
      simp only [t5, t6] at hK
      have H := Lib.hid hK
      clear hK hT
      go_simp
      exact H.out _ _ (Below.refl _ _) rfl (fun h => by cases h) trivial
    refine Rg.cons 8 9 rfl (Rg.plain rfl ?_) ?_
    · intro vs W n hn hI hG hT hF K hK
      simp only [Rg.putsD, List.getD_cons_zero, List.getD_cons_succ, Act.put, List.setIfInBounds_toArray, List.set_cons_zero, List.set_cons_succ] at hK ⊢
      clear hn
      clear hF hI
      have H := Lib.hid hK
      clear hK hT
      go_simp
      exact H.out _ _ (Below.refl _ _) rfl (fun h => by cases h) trivial
    refine Rg.cons 9 10 rfl (Rg.plain rfl ?_) ?_
    · intro vs W n hn hI hG hT hF K hK
      simp only [Rg.putsD, List.getD_cons_zero, List.getD_cons_succ, Act.put, List.setIfInBounds_toArray, List.set_cons_zero, List.set_cons_succ] at hK ⊢
      clear hn
      clear hF hI
      have t8 : vs 8 = .slice (some ⟨gn, 0, none⟩) 2 cu := hT 8 (by decide)
      simp only [t8] at hK
      have H := Lib.hid hK
      clear hK hT
      go_simp
      exact H.out _ _ (Below.refl _ _) rfl (fun h => by cases h) trivial
    refine Rg.cons 10 11 rfl (Rg.plain rfl ?_) ?_
    · intro vs W n hn hI hG hT hF K hK
      simp only [Rg.putsD, List.getD_cons_zero, List.getD_cons_succ, Act.put, List.setIfInBounds_toArray, List.set_cons_zero, List.set_cons_succ] at hK ⊢
      clear hn
      clear hF hI
      have t8 : vs 8 = .slice (some ⟨gn, 0, none⟩) 2 cu := hT 8 (by decide)
      have t9 : vs 9 = .pointer (some ⟨gn, 0, none⟩) := hT 9 (by decide)
      have c0 := (hG.cell (p := ⟨gn, 0, none⟩) hgnl).trans HN.out.2.2.1
      simp only [t8, t9] at hK
      have H := Lib.hid hK
      clear hK hT
      go_simp
      exact H.out _ _ (Below.refl _ _) rfl (fun h => by cases h) trivial
    refine Rg.cons 11 12 rfl (Rg.plain rfl ?_) ?_
    · intro vs W n hn hI hG hT hF K hK
      simp only [Rg.putsD, List.getD_cons_zero, List.getD_cons_succ, Act.put, List.setIfInBounds_toArray, List.set_cons_zero, List.set_cons_succ] at hK ⊢
      clear hn
      clear hF hI
      have H := Lib.hid hK
      clear hK hT
      go_simp
      exact H.out _ _ (Below.refl _ _) rfl (fun h => by cases h) trivial
    refine Rg.cons 12 13 rfl (Rg.plain rfl ?_) ?_
    · intro vs W n hn hI hG hT hF K hK
      simp only [Rg.putsD, List.getD_cons_zero, List.getD_cons_succ, Act.put, List.setIfInBounds_toArray, List.set_cons_zero, List.set_cons_succ] at hK ⊢
      clear hn
      clear hF hI
      have t11 : vs 11 = .slice (some ⟨gn, 0, none⟩) 2 cu := hT 11 (by decide)
      simp only [t11] at hK
      have H := Lib.hid hK
      clear hK hT
      go_simp
      exact H.out _ _ (Below.refl _ _) rfl (fun h => by cases h) trivial
    refine Rg.cons 13 14 rfl (Rg.plain rfl ?_) ?_
    · intro vs W n hn hI hG hT hF K hK
      simp only [Rg.putsD, List.getD_cons_zero, List.getD_cons_succ, Act.put, List.setIfInBounds_toArray, List.set_cons_zero, List.set_cons_succ] at hK ⊢
      clear hn
      clear hF hI
      have t11 : vs 11 = .slice (some ⟨gn, 0, none⟩) 2 cu := hT 11 (by decide)
      have t12 : vs 12 = .pointer (some ⟨gn, 1, none⟩) := hT 12 (by decide)
      have c0 := (hG.cell (p := ⟨gn, 1, none⟩) hgnl).trans HN.out.2.2.2
      simp only [t11, t12] at hK
      have H := Lib.hid hK
      clear hK hT
      go_simp
      exact H.out _ _ (Below.refl _ _) rfl (fun h => by cases h) trivial
    refine Rg.cons 14 15 rfl (Rg.plain rfl ?_) ?_
    · intro vs W n hn hI hG hT hF K hK
      simp only [Rg.putsD, List.getD_cons_zero, List.getD_cons_succ, Act.put, List.setIfInBounds_toArray, List.set_cons_zero, List.set_cons_succ] at hK ⊢
      clear hn
      clear hF hI
      have t2 : vs 2 = .slice (some ⟨gw, 0, none⟩) 5 5 := hT 2 (by decide)
      have t3 : vs 3 = .pointer (some ⟨gw, 1, none⟩) := hT 3 (by decide)
      have t4 : vs 4 = .string a := hT 4 (by decide)
      have t5 : vs 5 = .slice (some ⟨gw, 0, none⟩) 5 5 := hT 5 (by decide)
      have t6 : vs 6 = .pointer (some ⟨gw, 2, none⟩) := hT 6 (by decide)
      have t7 : vs 7 = .string b := hT 7 (by decide)
      have t8 : vs 8 = .slice (some ⟨gn, 0, none⟩) 2 cu := hT 8 (by decide)
      have t9 : vs 9 = .pointer (some ⟨gn, 0, none⟩) := hT 9 (by decide)
      have t10 : vs 10 = .int .i64 nx := hT 10 (by decide)
      have t11 : vs 11 = .slice (some ⟨gn, 0, none⟩) 2 cu := hT 11 (by decide)
      have t12 : vs 12 = .pointer (some ⟨gn, 1, none⟩) := hT 12 (by decide)
      have t13 : vs 13 = .int .i64 ny := hT 13 (by decide)
      simp only [t2, t3, t4, t5, t6, t7, t8, t9, t10, t11, t12, t13] at hK
      have H := Lib.hid hK
      clear hK hT
      go_simp
      exact H.out _ _ (Below.refl _ _) rfl (fun h => by cases h) trivial
    refine Rg.cons 15 16 rfl (Rg.plain rfl ?_) ?_
    · intro vs W n hn hI hG hT hF K hK
      simp only [Rg.putsD, List.getD_cons_zero, List.getD_cons_succ, Act.put, List.setIfInBounds_toArray, List.set_cons_zero, List.set_cons_succ] at hK ⊢
      clear hn
      clear hF hI
      have t2 : vs 2 = .slice (some ⟨gw, 0, none⟩) 5 5 := hT 2 (by decide)
      have t3 : vs 3 = .pointer (some ⟨gw, 1, none⟩) := hT 3 (by decide)
      have t4 : vs 4 = .string a := hT 4 (by decide)
      have t5 : vs 5 = .slice (some ⟨gw, 0, none⟩) 5 5 := hT 5 (by decide)
      have t6 : vs 6 = .pointer (some ⟨gw, 2, none⟩) := hT 6 (by decide)
      have t7 : vs 7 = .string b := hT 7 (by decide)
      have t8 : vs 8 = .slice (some ⟨gn, 0, none⟩) 2 cu := hT 8 (by decide)
      have t9 : vs 9 = .pointer (some ⟨gn, 0, none⟩) := hT 9 (by decide)
      have t10 : vs 10 = .int .i64 nx := hT 10 (by decide)
      have t11 : vs 11 = .slice (some ⟨gn, 0, none⟩) 2 cu := hT 11 (by decide)
      have t12 : vs 12 = .pointer (some ⟨gn, 1, none⟩) := hT 12 (by decide)
      have t13 : vs 13 = .int .i64 ny := hT 13 (by decide)
      have t14 : vs 14 = .agg #[.string a, .string b, .int .i64 nx, .int .i64 ny] := hT 14 (by decide)
      simp only [t2, t3, t4, t5, t6, t7, t8, t9, t10, t11, t12, t13, t14] at hK
      have H := Lib.hid hK
      clear hK hT
      go_simp
      exact H.out _ _ ((Below.refl _ _).alloc (Nat.le_refl _) _) (show ∃ q : Nat, _ = _ ∧ _ = _ from ⟨_, rfl, blk_new W _ rfl⟩) (fun _ => ⟨W.heap.size, rfl, Nat.le_refl _, by simp⟩) trivial
    exact Rg.nil
  · intro vs W hG hI hT hF
    have t0 : vs 0 = .pointer (some ⟨cb, 0, none⟩) := hT 0 (by decide)
    have t1 : vs 1 = .slice A1 st.1.length k1 := hT 1 (by decide)
    have t2 : vs 2 = .slice (some ⟨gw, 0, none⟩) 5 5 := hT 2 (by decide)
    have t3 : vs 3 = .pointer (some ⟨gw, 1, none⟩) := hT 3 (by decide)
    have t4 : vs 4 = .string a := hT 4 (by decide)
    have t5 : vs 5 = .slice (some ⟨gw, 0, none⟩) 5 5 := hT 5 (by decide)
    have t6 : vs 6 = .pointer (some ⟨gw, 2, none⟩) := hT 6 (by decide)
    have t7 : vs 7 = .string b := hT 7 (by decide)
    have t8 : vs 8 = .slice (some ⟨gn, 0, none⟩) 2 cu := hT 8 (by decide)
    have t9 : vs 9 = .pointer (some ⟨gn, 0, none⟩) := hT 9 (by decide)
    have t10 : vs 10 = .int .i64 nx := hT 10 (by decide)
    have t11 : vs 11 = .slice (some ⟨gn, 0, none⟩) 2 cu := hT 11 (by decide)
    have t12 : vs 12 = .pointer (some ⟨gn, 1, none⟩) := hT 12 (by decide)
    have t13 : vs 13 = .int .i64 ny := hT 13 (by decide)
    have t14 : vs 14 = .agg #[.string a, .string b, .int .i64 nx, .int .i64 ny] := hT 14 (by decide)
    have t15 : ∃ q : Nat, vs 15 = .slice (some ⟨q, 0, none⟩) 1 1 ∧ W.heap[q]? = some (.cells #[.string a, .string b, .int .i64 nx, .int .i64 ny] 47 (0, 0)) := hT 15 (by decide)
    simp only [List.length_cons, List.length_nil, Nat.reduceAdd, List.range, List.range.loop, List.drop_succ_cons, List.drop_zero, Rg.putsD, List.getD_cons_zero, List.getD_cons_succ, Act.put, List.setIfInBounds_toArray, List.set_cons_zero, List.set_cons_succ, t0, t1, t2, t3, t4, t5, t6, t7, t8, t9, t10, t11, t12, t13, t14]
    clear hT t0 t1 t2 t3 t4 t5 t6 t7 t8 t9 t10 t11 t12 t13 t14
    obtain ⟨bq, e8, k8⟩ := t15
    have hszd : w1.heap.size ≤ W.heap.size := hG.size
    have HW : Hid (Below base w W ∧ W.ownsRow (cb + 1) 47 4 (.slice A1 st.1.length k1) st.1.length (st.1.flatMap encPa) ∧ W.heap[cb]? = some (.cells #[.slice A1 st.1.length k1, .slice A2 st.2.length k2] 29 (0, 0)) ∧ W.heap[bq]? = some (.cells #[.string a, .string b, .int .i64 nx, .int .i64 ny] 47 (0, 0)) ∧ W.ownsRow (cb + 1) 51 3 (.slice A2 st.2.length k2) st.2.length (st.2.flatMap encAl)) :=
      ⟨(H1.out.1.drew).then_below hG (by have := H1.out.1.size; show base ≤ w1.heap.size; omega), own_below (w := w1.drew) H1.out.2.2.1.drew hG, blk_below hG H1.out.2.1, k8, own_below (w := w1.drew) H1.out.2.2.2.drew hG⟩
    have E8 := Lib.hid e8
    have hcW : cb + 1 ≤ W.heap.size := lt_of_blk HW.out.2.2.1
    clear hF hI e8 k8 hG
    simp only [E8.out]
    refine wpList_append_own _ rfl _ _ 26 rfl (cb + 1) 47 i0 _ 4 48 Tryz.underlying26 HIF.out.1 HIF.out.2.1 HIF.out.2.2.1 HIF.out.2.2.2 rfl (by omega) _ st.1.length (st.1.flatMap encPa) rfl HW.out.2.1 ⟨bq, 0, none⟩ 1 1 [.string a, .string b, .int .i64 nx, .int .i64 ny] rfl rfl ?c1 (by intro u hu; simp at hu; rcases hu with rfl | rfl | rfl | rfl <;> rfl) ?c2 ?c3 hcW ?_
    case c1 =>
      intro q u hu
      rw [addr_new, cell_of_blk HW.out.2.2.2.1]
      simpa using hu
    case c2 => unfold maxLen; omega
    case c3 => omega
    intro v' w4 hown' hg' _
    obtain ⟨A9, c9, rfl, _, _⟩ := own_slice' hown'
    have b4 := (hg'.block cb (by omega) (fun e => by have := own_row HW.out.2.1 cb e.symm; omega)).trans HW.out.2.2.1
    obtain ⟨p4, _, f4, _⟩ := blk2 b4
    have h4l := lt_of_blk b4
    have HV : Hid (Below base w w4 ∧ w4.ownsRow (cb + 1) 47 4 (.slice A9 (st.1.length + 1) c9) (st.1.length + 1) (st.1.flatMap encPa ++ [.string a, .string b, .int .i64 nx, .int .i64 ny]) ∧ w4.heap[cb]? = some (.cells #[.slice A1 st.1.length k1, .slice A2 st.2.length k2] 29 (0, 0)) ∧ w4.ownsRow (cb + 1) 51 3 (.slice A2 st.2.length k2) st.2.length (st.2.flatMap encAl)) :=
      ⟨HW.out.1.grown hg' (by omega) (fun k hk => by have := own_row HW.out.2.1 k hk; omega), hown', b4, HW.out.2.2.2.2.kept hg' (own_apart HW.out.2.2.2.2 HW.out.2.1 (by decide))⟩
    clear hown' hg' b4 HW
    go_wp2_with fail
    have HF : Hid (Below base w (w4.setCell ⟨cb, 0, none⟩ (.slice A9 (st.1.length + 1) c9)) ∧ CatAt cb (i + 1) (st.1 ++ [⟨a, b, nx, ny⟩], st.2) (w4.setCell ⟨cb, 0, none⟩ (.slice A9 (st.1.length + 1) c9))) := by
      refine ⟨HV.out.1.setCell hcb _, ⟨_, _, blk_set HV.out.2.2.1 _, ?_, own_far HV.out.2.2.2 (p := ⟨cb, 0, none⟩) (by show cb < cb + 1; omega) _⟩, ?_, ?_, HS9.out.2⟩
      · have := own_far HV.out.2.1 (p := ⟨cb, 0, none⟩) (by show cb < cb + 1; omega) (.slice A9 (st.1.length + 1) c9)
        rw [List.length_append, flatPa_snoc]
        exact this
      · rw [List.length_append]
        show st.1.length + 1 + st.2.length ≤ i + 1
        omega
      · intro p hp
        rcases List.mem_append.mp hp with hp | hp
        · exact HS9.out.1 p hp
        · have : p = ⟨a, b, nx, ny⟩ := by simpa using hp
          subst this
          exact HZC.out
    generalize w4.setCell ⟨cb, 0, none⟩ (.slice A9 (st.1.length + 1) c9) = w3 at *
    go_wp2_with fail
    go_ret
    cases bb
    · have HR := HT.out.trans (if_neg (fun h => by cases h.2))
      exact ⟨by rw [HR]; rfl, HF.out.1, fun st' h => by rw [HR] at h; cases h⟩
    · obtain ⟨rfl, rfl⟩ := HNN.out rfl
      have HR := HT.out.trans (if_pos ⟨⟨hx, hs2⟩, rfl⟩)
      exact ⟨by rw [HR]; rfl, HF.out.1, fun st' h => by rw [HR] at h; cases h; exact ⟨HF.out.2, HGL.out.below HF.out.1 hlow⟩⟩
end Go.Proofs.YtiooimfkobjpkaaGreatDoor
