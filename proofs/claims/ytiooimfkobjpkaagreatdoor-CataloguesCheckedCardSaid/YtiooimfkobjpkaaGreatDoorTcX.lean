/-
  The program reads catalogues: the lines of alternates, and both together.
-/
import Derived.Test.YtiooimfkobjpkaaGreatDoorTcW
namespace Go.Proofs.YtiooimfkobjpkaaGreatDoor
open Go.RowKit
set_option linter.unusedSimpArgs false
set_option linter.unusedVariables false

set_option maxRecDepth 100000 in
set_option maxHeartbeats 16000000 in
theorem readAlt_any {cb base i : Nat} {st : St} {ws : List ByteArray} {v : Value} {w0 w1 : World} (hi2 : i ≤ 200000) (hz : ∀ x ∈ ws, x.size ≤ 200000) (hcb : base ≤ cb) (hbw0 : base ≤ w0.heap.size) (hI0 : CatAt cb i st w0) (hb0 : Below w0.heap.size w0 w1) (hS0 : ReadsF w0.heap.size encS v ws w1) :
    Calls Tryz.prog 39 #[.pointer (some ⟨cb, 0, none⟩), v] w1 fun e w' => e = .returned (.bool (takeAlt st ws).isSome) ∧ Below base w1 w' ∧ ∀ st', takeAlt st ws = some st' → CatAt cb (i + 1) st' w' := by
  have hI := hI0.below hb0
  have hS := hS0.strs
  have hbw : base ≤ w1.heap.size := Nat.le_trans hbw0 hb0.size
  have hcb0 : cb < w0.heap.size := hI0.lt
  by_cases hl : ws.length = 4
  rotate_left
  · have HR := Lib.hid (@takeAlt_len st ws hl)
    have hne : ((ws.length : Int) != 4) = true := by simp; omega
    obtain ⟨A, c, rfl, _, _⟩ := hS
    go_enter Tryz.func39, Tryz.ntmps39
    go_wp2_with fail
    go_ret
    exact ⟨by rw [HR.out]; rfl, Below.refl _ _, fun st' h => by rw [HR.out] at h; cases h⟩
  obtain ⟨x, a, f, c, rfl⟩ := len4 hl
  have hg0 : ∀ g o : Nat, ∀ n c, v = .slice (some ⟨g, o, none⟩) n c → w0.heap.size ≤ g ∨ n = 0 := fun g o n c e => by
    obtain ⟨A', c', e', _, h⟩ := hS0
    rw [e] at e'
    injection e' with e1 e2 e3
    rcases h with h | ⟨g', e4, h, _⟩
    · right; rw [e2, h]; rfl
    · left; rw [e4] at e1; injection e1 with e1; injection e1 with e1; omega
  obtain ⟨A, cp, rfl, hc, hr⟩ := hS
  obtain ⟨g, o, rfl, hgl, hcs⟩ : ∃ g o : Nat, A = some ⟨g, o, none⟩ ∧ g < w1.heap.size ∧ ∀ j (h : j < [x, a, f, c].length), w1.cell? ⟨g, o + j, none⟩ = some (.string [x, a, f, c][j]) := by
    rcases hr with hr | hr
    · cases hr
    · exact hr
  have q0 := hcs 0 (by simp)
  simp only [Nat.add_zero, List.getElem_cons_zero] at q0
  have q1 : w1.cell? ⟨g, o + 1, none⟩ = some (.string a) := hcs 1 (by simp)
  have q2 : w1.cell? ⟨g, o + 2, none⟩ = some (.string f) := hcs 2 (by simp)
  have q3 : w1.cell? ⟨g, o + 3, none⟩ = some (.string c) := hcs 3 (by simp)
  have hc4 : 4 ≤ cp := hc
  have HZ := Lib.hid (And.intro (hz c (by simp)) (hz a (by simp)))
  have HX : Hid (∀ (h1 : (isUse x || isBoth x) = false ∨ isFor f = false), takeAlt st [x, a, f, c] = none) := fun h1 => by
    simp only [takeAlt]
    rw [if_neg]
    rintro ⟨h2, h3⟩
    rcases h1 with h1 | h1
    · rw [h1] at h2; cases h2
    · rw [h1] at h3; cases h3
  have HY : Hid (∀ (h1 : (isUse x || isBoth x) = true) (h2 : isFor f = true), takeAlt st [x, a, f, c] = some (st.1, st.2 ++ [⟨c, a, isBoth x⟩])) := fun h1 h2 => by
    simp only [takeAlt]
    rw [if_pos ⟨h1, h2⟩]
  unfold isUse isBoth isFor at HX HY
  obtain ⟨v1, v2, hp, ho1, ho2⟩ := hI.blk
  obtain ⟨A1, k1, rfl, hk1, _⟩ := own_slice' ho1
  obtain ⟨A2, k2, rfl, hk2, _⟩ := own_slice' ho2
  have HP := Lib.hid (And.intro (Below.refl base w1) (And.intro hp (And.intro ho1 ho2)))
  have hcbl1 := lt_of_blk hp
  have hlen := hI.len
  have hpl2 : st.2.length ≤ 200000 := by omega
  have hgw : w0.heap.size ≤ g := by
    rcases hg0 g o _ _ rfl with h | h
    · exact h
    · simp at h
  have HRow : Hid (∀ j, (Value.slice A2 st.2.length k2).ownBlock = some j → cb + 1 ≤ j ∧ j ≠ g) := fun j hj => by
    have hj0 := own_row HP.out.2.2.2 j hj
    obtain ⟨u1, u2, hq0, _, hq1⟩ := hI0.blk
    have e0 := (blk_below hb0 hq0).symm.trans HP.out.2.1
    simp at e0
    rw [e0.2] at hq1
    have hj1 := own_lt hq1 j hj
    omega
  have hne2 : g ≠ cb := by omega
  obtain ⟨row, hrow⟩ : ∃ row, (Value.slice A2 st.2.length k2).ownBlock = row := ⟨_, rfl⟩
  have HRW : Hid (∀ j, row = some j → j < w1.heap.size) := fun j hj => own_lt HP.out.2.2.2 j (hrow.trans hj)
  have HAP : Hid ((Value.slice A1 st.1.length k1).ownBlock = none ∨ (Value.slice A1 st.1.length k1).ownBlock ≠ row) := by rw [← hrow]; exact own_apart HP.out.2.2.1 HP.out.2.2.2 (by decide)
  rw [hrow] at HRow
  have HC3 : Hid (∀ W, w1.drew.grownBy W row → W.cell? ⟨cb, 1, none⟩ = some (.slice A2 st.2.length k2) ∧ W.frozen? ⟨cb, 1, none⟩ = false ∧ W.heap[cb]? = some (.cells #[.slice A1 st.1.length k1, .slice A2 st.2.length k2] 29 (0, 0))) := fun W hg => by
    have hbk := (hg.block cb hcbl1 (fun e => by have := HRow.out cb e.symm; omega)).trans hp
    exact ⟨by rw [cell_of_blk hbk]; rfl, frozen_of_blk hbk 1, hbk⟩
  have HKS : Hid (∀ W, w1.drew.grownBy W row → W.cell? ⟨g, o, none⟩ = some (.string x) ∧ W.cell? ⟨g, o + 1, none⟩ = some (.string a) ∧ W.cell? ⟨g, o + 3, none⟩ = some (.string c)) := fun W h =>
    ⟨World.grownBy.cell h (a := ⟨g, o, none⟩) q0 (fun e => (HRow.out g e.symm).2 rfl), World.grownBy.cell h (a := ⟨g, o + 1, none⟩) q1 (fun e => (HRow.out g e.symm).2 rfl), World.grownBy.cell h (a := ⟨g, o + 3, none⟩) q3 (fun e => (HRow.out g e.symm).2 rfl)⟩
  obtain ⟨i0, hi0, hz0, hzz1, hzz2⟩ := info_parts alt_info
  have HIF := Lib.hid (And.intro hi0 (And.intro hz0 (And.intro hzz1 hzz2)))
  have hcb1 : cb + 1 ≤ w1.heap.size := hcbl1
  have HO : Hid (w1.ownsRow (cb + 1) 51 3 (.slice A2 st.2.length k2) st.2.length (st.2.flatMap encAl)) := HP.out.2.2.2
  have HROW := Lib.hid hrow
  have HS9 := Lib.hid (And.intro hI.sp hI.sa)
  clear hp hi0 hz0 hzz1 hzz2 hI0 hb0 hS0 hg0 hrow hI ho1 ho2 q1 q3 hcs hz hr hl
  cases hf : (f.toList == [102, 111, 114])
  · have HR := Lib.hid (HX.out (.inr hf))
    clear HX HY
    cases hu : (x.toList == [117, 115, 101]) <;> cases hb : (x.toList == [98, 111, 116, 104])
    all_goals
      go_enter Tryz.func39, Tryz.ntmps39
      go_wp2_with fail
      go_ret
      exact ⟨by rw [HR.out]; rfl, Below.refl _ _, fun st' h => by rw [HR.out] at h; cases h⟩
  cases hu : (x.toList == [117, 115, 101])
  · cases hb : (x.toList == [98, 111, 116, 104])
    · have HR := Lib.hid (HX.out (.inl (by rw [hu, hb]; rfl)))
      clear HX HY
      go_enter Tryz.func39, Tryz.ntmps39
      go_wp2_with fail
      go_ret
      exact ⟨by rw [HR.out]; rfl, Below.refl _ _, fun st' h => by rw [HR.out] at h; cases h⟩
    skip
    have HR := Lib.hid (HY.out (by rw [hu]; rw [hb]; rfl) hf)
    rw [hb] at HR
    clear HX HY
    go_enter Tryz.func39, Tryz.ntmps39
    go_wp2_with fail
    refine Rg.rgS 17 [0] (fun a b => a.grownBy b row) (fun a b => Below a.heap.size a b) (fun a b => a.grownBy b row)
      [(fun vs u => vs 0 = .pointer (some ⟨cb, 0, none⟩)), (fun vs u => vs 1 = .pointer (some ⟨cb, 0, none⟩)), (fun vs u => vs 2 = .pointer (some ⟨cb, 0, none⟩)), (fun vs u => vs 3 = .pointer (some ⟨cb, 1, none⟩)), (fun vs u => vs 4 = .slice A2 st.2.length k2), (fun vs u => vs 5 = .slice (some ⟨g, o, none⟩) 4 cp), (fun vs u => vs 6 = .pointer (some ⟨g, o + 3, none⟩)), (fun vs u => vs 7 = .string c), (fun vs u => vs 8 = .slice (some ⟨g, o, none⟩) 4 cp), (fun vs u => vs 9 = .pointer (some ⟨g, o + 1, none⟩)), (fun vs u => vs 10 = .string a), (fun vs u => vs 11 = .slice (some ⟨g, o, none⟩) 4 cp), (fun vs u => vs 12 = .pointer (some ⟨g, o, none⟩)), (fun vs u => vs 13 = .string x), (fun vs u => vs 14 = .bool true), (fun vs u => vs 15 = .agg #[.string c, .string a, .bool true]), (fun vs u => ∃ q : Nat, vs 16 = .slice (some ⟨q, 0, none⟩) 1 1 ∧ w1.heap.size ≤ q ∧ u.heap[q]? = some (.cells #[.string c, .string a, .bool true] 51 (0, 0))), (fun vs u => ∃ (A : Option Addr) (c9 : Nat), vs 17 = .slice A (st.2.length + 1) c9 ∧ u.ownsRow (cb + 1) 51 3 (.slice A (st.2.length + 1) c9) (st.2.length + 1) (st.2.flatMap encAl ++ [.string c, .string a, .bool true]))]
      [[], [], [1], [1, 2], [1, 2, 3], [], [5], [5, 6], [], [8], [8, 9], [], [11], [11, 12], [11, 12, 13], [5, 6, 7, 8, 9, 10, 11, 12, 13, 14], [5, 6, 7, 8, 9, 10, 11, 12, 13, 14, 15], [1, 2, 3, 4, 5, 6, 7, 8, 9, 10, 11, 12, 13, 14, 15, 16]] [some 26, some 27, some 28, some 29, some 30, some 31, some 32, some 33, some 34, some 35, some 36, some 37, some 38, some 39, some 40, some 41, some 42, some 43, some 44, some 45, none] [] (fun _ W => W.ownsRow (cb + 1) 51 3 (.slice A2 st.2.length k2) st.2.length (st.2.flatMap encAl)) [[], [], [1], [1, 2], [1, 2, 3], [], [5], [5, 6], [], [8], [8, 9], [], [11], [11, 12], [11, 12, 13], [5, 6, 7, 8, 9, 10, 11, 12, 13, 14], [5, 6, 7, 8, 9, 10, 11, 12, 13, 14, 15], [1, 2, 3, 4, 5, 6, 7, 8, 9, 10, 11, 12, 13, 14, 15, 16], [0, 1, 2, 3, 4, 5, 6, 7, 8, 9, 10, 11, 12, 13, 14, 15, 16, 17], [0, 1, 2, 3, 4, 5, 6, 7, 8, 9, 10, 11, 12, 13, 14, 15, 16, 17, 18], [0, 1, 2, 3, 4, 5, 6, 7, 8, 9, 10, 11, 12, 13, 14, 15, 16, 17, 18, 19]]
      (by kernel_rfl) (by decide) (by kernel_rfl) (by kernel_rfl) (by kernel_rfl) (by kernel_rfl) (by kernel_rfl) (fun _ => World.grownBy.refl _ _) (fun _ _ _ h k => World.grownBy.trans h k) (fun _ _ h => h.size) (fun _ _ h => ⟨h.os, h.tape, h.output, h.size, fun k hk _ => h.block k hk⟩) (fun _ _ h => h) (by decide) ?_ ?_ HO.out.drew ?_ ?_
    · intro j hj vs w w' h hE
      match j, hj, h with
      | 0, _, h => exact h
      | 1, _, h => exact h
      | 2, _, h => exact h
      | 3, _, h => exact h
      | 4, _, h => exact h
      | 5, _, h => exact h
      | 6, _, h => exact h
      | 7, _, h => exact h
      | 8, _, h => exact h
      | 9, _, h => exact h
      | 10, _, h => exact h
      | 11, _, h => exact h
      | 12, _, h => exact h
      | 13, _, h => exact h
      | 14, _, h => exact h
      | 15, _, h => exact h
      | 16, _, h =>
        have h : ∃ q : Nat, vs 16 = .slice (some ⟨q, 0, none⟩) 1 1 ∧ w1.heap.size ≤ q ∧ w.heap[q]? = some (.cells #[.string c, .string a, .bool true] 51 (0, 0)) := h
        show ∃ q : Nat, vs 16 = .slice (some ⟨q, 0, none⟩) 1 1 ∧ w1.heap.size ≤ q ∧ w'.heap[q]? = some (.cells #[.string c, .string a, .bool true] 51 (0, 0))
        obtain ⟨q, e, hq, k⟩ := h
        exact ⟨q, e, hq, blk_below hE k⟩
      | 17, hj, _ => exact absurd rfl hj
      | (j + 18), _, h => exact h
    · intro j hj hc vs w w' h hE
      match j, hj, hc, h with
      | 0, _, _, h => exact h
      | 1, _, _, h => exact h
      | 2, _, _, h => exact h
      | 3, _, _, h => exact h
      | 4, _, _, h => exact h
      | 5, _, _, h => exact h
      | 6, _, _, h => exact h
      | 7, _, _, h => exact h
      | 8, _, _, h => exact h
      | 9, _, _, h => exact h
      | 10, _, _, h => exact h
      | 11, _, _, h => exact h
      | 12, _, _, h => exact h
      | 13, _, _, h => exact h
      | 14, _, _, h => exact h
      | 15, _, _, h => exact h
      | 16, _, _, h =>
        have h : ∃ q : Nat, vs 16 = .slice (some ⟨q, 0, none⟩) 1 1 ∧ w1.heap.size ≤ q ∧ w.heap[q]? = some (.cells #[.string c, .string a, .bool true] 51 (0, 0)) := h
        show ∃ q : Nat, vs 16 = .slice (some ⟨q, 0, none⟩) 1 1 ∧ w1.heap.size ≤ q ∧ w'.heap[q]? = some (.cells #[.string c, .string a, .bool true] 51 (0, 0))
        obtain ⟨q, e, hq, k⟩ := h
        exact ⟨q, e, hq, (hE.block q (lt_of_blk k) (fun e => by have := HRW.out q e.symm; omega)).trans k⟩
      | 17, hj, _, _ => exact absurd rfl hj
      | (j + 18), _, _, h => exact h
    ·
      refine Rg.cons 0 1 rfl (Rg.plain rfl ?_) ?_
      · intro vs W n hn hI hG hT hF K hK
        simp only [Rg.putsD, List.getD_cons_zero, List.getD_cons_succ, Act.put, List.setIfInBounds_toArray, List.set_cons_zero, List.set_cons_succ] at hK ⊢
        clear hn
        clear hF
        have H := Lib.hid hK
        clear hK hT
        go_simp
        exact H.out _ _ (rfl) rfl (fun h => by cases h) hI
      refine Rg.cons 1 2 rfl (Rg.plain rfl ?_) ?_
      · intro vs W n hn hI hG hT hF K hK
        simp only [Rg.putsD, List.getD_cons_zero, List.getD_cons_succ, Act.put, List.setIfInBounds_toArray, List.set_cons_zero, List.set_cons_succ] at hK ⊢
        clear hn
        clear hF
        have H := Lib.hid hK
        clear hK hT
        go_simp
        exact H.out _ _ (Below.refl _ _) rfl (fun h => by cases h) hI
      refine Rg.cons 2 3 rfl (Rg.plain rfl ?_) ?_
      · intro vs W n hn hI hG hT hF K hK
        simp only [Rg.putsD, List.getD_cons_zero, List.getD_cons_succ, Act.put, List.setIfInBounds_toArray, List.set_cons_zero, List.set_cons_succ] at hK ⊢
        clear hn
        clear hF
        have t1 : vs 1 = .pointer (some ⟨cb, 0, none⟩) := hT 1 (by decide)
        simp only [t1] at hK
        have H := Lib.hid hK
        clear hK hT
        go_simp
        exact H.out _ _ (Below.refl _ _) rfl (fun h => by cases h) hI
      refine Rg.cons 3 4 rfl (Rg.plain rfl ?_) ?_
      · intro vs W n hn hI hG hT hF K hK
        simp only [Rg.putsD, List.getD_cons_zero, List.getD_cons_succ, Act.put, List.setIfInBounds_toArray, List.set_cons_zero, List.set_cons_succ] at hK ⊢
        clear hn
        clear hF
        have t1 : vs 1 = .pointer (some ⟨cb, 0, none⟩) := hT 1 (by decide)
        have t2 : vs 2 = .pointer (some ⟨cb, 0, none⟩) := hT 2 (by decide)
        simp only [t1, t2] at hK
        have H := Lib.hid hK
        clear hK hT
        go_simp
        exact H.out _ _ (Below.refl _ _) rfl (fun h => by cases h) hI
      refine Rg.cons 4 5 rfl (Rg.plain rfl ?_) ?_
      · intro vs W n hn hI hG hT hF K hK
        simp only [Rg.putsD, List.getD_cons_zero, List.getD_cons_succ, Act.put, List.setIfInBounds_toArray, List.set_cons_zero, List.set_cons_succ] at hK ⊢
        clear hn
        clear hF
        have t1 : vs 1 = .pointer (some ⟨cb, 0, none⟩) := hT 1 (by decide)
        have t2 : vs 2 = .pointer (some ⟨cb, 0, none⟩) := hT 2 (by decide)
        have t3 : vs 3 = .pointer (some ⟨cb, 1, none⟩) := hT 3 (by decide)
        have c0 := (HC3.out W hG).1
        simp only [t1, t2, t3] at hK
        have H := Lib.hid hK
        clear hK hT
        go_simp
        exact H.out _ _ (Below.refl _ _) rfl (fun h => by cases h) hI
      refine Rg.cons 5 6 rfl (Rg.plain rfl ?_) ?_
      · intro vs W n hn hI hG hT hF K hK
        simp only [Rg.putsD, List.getD_cons_zero, List.getD_cons_succ, Act.put, List.setIfInBounds_toArray, List.set_cons_zero, List.set_cons_succ] at hK ⊢
        clear hn
        clear hF
        have H := Lib.hid hK
        clear hK hT
        go_simp
        exact H.out _ _ (Below.refl _ _) rfl (fun h => by cases h) hI
      refine Rg.cons 6 7 rfl (Rg.plain rfl ?_) ?_
      · intro vs W n hn hI hG hT hF K hK
        simp only [Rg.putsD, List.getD_cons_zero, List.getD_cons_succ, Act.put, List.setIfInBounds_toArray, List.set_cons_zero, List.set_cons_succ] at hK ⊢
        clear hn
        clear hF
        have t5 : vs 5 = .slice (some ⟨g, o, none⟩) 4 cp := hT 5 (by decide)
        simp only [t5] at hK
        have H := Lib.hid hK
        clear hK hT
        go_simp
        exact H.out _ _ (Below.refl _ _) rfl (fun h => by cases h) hI
      refine Rg.cons 7 8 rfl (Rg.plain rfl ?_) ?_
      · intro vs W n hn hI hG hT hF K hK
        simp only [Rg.putsD, List.getD_cons_zero, List.getD_cons_succ, Act.put, List.setIfInBounds_toArray, List.set_cons_zero, List.set_cons_succ] at hK ⊢
        clear hn
        clear hF
        have t5 : vs 5 = .slice (some ⟨g, o, none⟩) 4 cp := hT 5 (by decide)
        have t6 : vs 6 = .pointer (some ⟨g, o + 3, none⟩) := hT 6 (by decide)
        have c0 := (HKS.out W hG).2.2
        simp only [t5, t6] at hK
        have H := Lib.hid hK
        clear hK hT
        go_simp
        exact H.out _ _ (Below.refl _ _) rfl (fun h => by cases h) hI
      refine Rg.cons 8 9 rfl (Rg.plain rfl ?_) ?_
      · intro vs W n hn hI hG hT hF K hK
        simp only [Rg.putsD, List.getD_cons_zero, List.getD_cons_succ, Act.put, List.setIfInBounds_toArray, List.set_cons_zero, List.set_cons_succ] at hK ⊢
        clear hn
        clear hF
        have H := Lib.hid hK
        clear hK hT
        go_simp
        exact H.out _ _ (Below.refl _ _) rfl (fun h => by cases h) hI
      refine Rg.cons 9 10 rfl (Rg.plain rfl ?_) ?_
      · intro vs W n hn hI hG hT hF K hK
        simp only [Rg.putsD, List.getD_cons_zero, List.getD_cons_succ, Act.put, List.setIfInBounds_toArray, List.set_cons_zero, List.set_cons_succ] at hK ⊢
        clear hn
        clear hF
        have t8 : vs 8 = .slice (some ⟨g, o, none⟩) 4 cp := hT 8 (by decide)
        simp only [t8] at hK
        have H := Lib.hid hK
        clear hK hT
        go_simp
        exact H.out _ _ (Below.refl _ _) rfl (fun h => by cases h) hI
      refine Rg.cons 10 11 rfl (Rg.plain rfl ?_) ?_
      · intro vs W n hn hI hG hT hF K hK
        simp only [Rg.putsD, List.getD_cons_zero, List.getD_cons_succ, Act.put, List.setIfInBounds_toArray, List.set_cons_zero, List.set_cons_succ] at hK ⊢
        clear hn
        clear hF
        have t8 : vs 8 = .slice (some ⟨g, o, none⟩) 4 cp := hT 8 (by decide)
        have t9 : vs 9 = .pointer (some ⟨g, o + 1, none⟩) := hT 9 (by decide)
        have c0 := (HKS.out W hG).2.1
        simp only [t8, t9] at hK
        have H := Lib.hid hK
        clear hK hT
        go_simp
        exact H.out _ _ (Below.refl _ _) rfl (fun h => by cases h) hI
      refine Rg.cons 11 12 rfl (Rg.plain rfl ?_) ?_
      · intro vs W n hn hI hG hT hF K hK
        simp only [Rg.putsD, List.getD_cons_zero, List.getD_cons_succ, Act.put, List.setIfInBounds_toArray, List.set_cons_zero, List.set_cons_succ] at hK ⊢
        clear hn
        clear hF
        have H := Lib.hid hK
        clear hK hT
        go_simp
        exact H.out _ _ (Below.refl _ _) rfl (fun h => by cases h) hI
      refine Rg.cons 12 13 rfl (Rg.plain rfl ?_) ?_
      · intro vs W n hn hI hG hT hF K hK
        simp only [Rg.putsD, List.getD_cons_zero, List.getD_cons_succ, Act.put, List.setIfInBounds_toArray, List.set_cons_zero, List.set_cons_succ] at hK ⊢
        clear hn
        clear hF
        have t11 : vs 11 = .slice (some ⟨g, o, none⟩) 4 cp := hT 11 (by decide)
        simp only [t11] at hK
        have H := Lib.hid hK
        clear hK hT
        go_simp
        exact H.out _ _ (Below.refl _ _) rfl (fun h => by cases h) hI
      refine Rg.cons 13 14 rfl (Rg.plain rfl ?_) ?_
      · intro vs W n hn hI hG hT hF K hK
        simp only [Rg.putsD, List.getD_cons_zero, List.getD_cons_succ, Act.put, List.setIfInBounds_toArray, List.set_cons_zero, List.set_cons_succ] at hK ⊢
        clear hn
        clear hF
        have t11 : vs 11 = .slice (some ⟨g, o, none⟩) 4 cp := hT 11 (by decide)
        have t12 : vs 12 = .pointer (some ⟨g, o, none⟩) := hT 12 (by decide)
        have c0 := (HKS.out W hG).1
        simp only [t11, t12] at hK
        have H := Lib.hid hK
        clear hK hT
        go_simp
        exact H.out _ _ (Below.refl _ _) rfl (fun h => by cases h) hI
      refine Rg.cons 14 15 rfl (Rg.plain rfl ?_) ?_
      · intro vs W n hn hI hG hT hF K hK
        simp only [Rg.putsD, List.getD_cons_zero, List.getD_cons_succ, Act.put, List.setIfInBounds_toArray, List.set_cons_zero, List.set_cons_succ] at hK ⊢
        clear hn
        clear hF
        have t11 : vs 11 = .slice (some ⟨g, o, none⟩) 4 cp := hT 11 (by decide)
        have t12 : vs 12 = .pointer (some ⟨g, o, none⟩) := hT 12 (by decide)
        have t13 : vs 13 = .string x := hT 13 (by decide)
        simp only [t11, t12, t13] at hK
        have H := Lib.hid hK
        clear hK hT
        go_simp
        exact H.out _ _ (Below.refl _ _) rfl (fun h => by cases h) hI
      refine Rg.cons 15 16 rfl (Rg.plain rfl ?_) ?_
      · intro vs W n hn hI hG hT hF K hK
        simp only [Rg.putsD, List.getD_cons_zero, List.getD_cons_succ, Act.put, List.setIfInBounds_toArray, List.set_cons_zero, List.set_cons_succ] at hK ⊢
        clear hn
        clear hF
        have t5 : vs 5 = .slice (some ⟨g, o, none⟩) 4 cp := hT 5 (by decide)
        have t6 : vs 6 = .pointer (some ⟨g, o + 3, none⟩) := hT 6 (by decide)
        have t7 : vs 7 = .string c := hT 7 (by decide)
        have t8 : vs 8 = .slice (some ⟨g, o, none⟩) 4 cp := hT 8 (by decide)
        have t9 : vs 9 = .pointer (some ⟨g, o + 1, none⟩) := hT 9 (by decide)
        have t10 : vs 10 = .string a := hT 10 (by decide)
        have t11 : vs 11 = .slice (some ⟨g, o, none⟩) 4 cp := hT 11 (by decide)
        have t12 : vs 12 = .pointer (some ⟨g, o, none⟩) := hT 12 (by decide)
        have t13 : vs 13 = .string x := hT 13 (by decide)
        have t14 : vs 14 = .bool true := hT 14 (by decide)
        simp only [t5, t6, t7, t8, t9, t10, t11, t12, t13, t14] at hK
        have H := Lib.hid hK
        clear hK hT
        go_simp
        exact H.out _ _ (Below.refl _ _) rfl (fun h => by cases h) hI
      refine Rg.cons 16 17 rfl (Rg.plain rfl ?_) ?_
      · intro vs W n hn hI hG hT hF K hK
        simp only [Rg.putsD, List.getD_cons_zero, List.getD_cons_succ, Act.put, List.setIfInBounds_toArray, List.set_cons_zero, List.set_cons_succ] at hK ⊢
        clear hn
        clear hF
        have t5 : vs 5 = .slice (some ⟨g, o, none⟩) 4 cp := hT 5 (by decide)
        have t6 : vs 6 = .pointer (some ⟨g, o + 3, none⟩) := hT 6 (by decide)
        have t7 : vs 7 = .string c := hT 7 (by decide)
        have t8 : vs 8 = .slice (some ⟨g, o, none⟩) 4 cp := hT 8 (by decide)
        have t9 : vs 9 = .pointer (some ⟨g, o + 1, none⟩) := hT 9 (by decide)
        have t10 : vs 10 = .string a := hT 10 (by decide)
        have t11 : vs 11 = .slice (some ⟨g, o, none⟩) 4 cp := hT 11 (by decide)
        have t12 : vs 12 = .pointer (some ⟨g, o, none⟩) := hT 12 (by decide)
        have t13 : vs 13 = .string x := hT 13 (by decide)
        have t14 : vs 14 = .bool true := hT 14 (by decide)
        have t15 : vs 15 = .agg #[.string c, .string a, .bool true] := hT 15 (by decide)
        have hsz := hG.size
        simp only [t5, t6, t7, t8, t9, t10, t11, t12, t13, t14, t15] at hK
        have H := Lib.hid hK
        clear hK hT
        go_simp
        exact H.out _ _ ((Below.refl _ _).alloc (Nat.le_refl _) _) (show ∃ q : Nat, _ = _ ∧ _ ∧ _ = _ from ⟨_, rfl, hsz, blk_new W _ rfl⟩) (fun h => by cases h) (World.ownsRow.alloc hI _)
      refine Rg.cons 17 18 rfl (Rg.plain rfl ?_) ?_
      · intro vs W n hn hI hG hT hF K hK
        simp only [Rg.putsD, List.getD_cons_zero, List.getD_cons_succ, Act.put, List.setIfInBounds_toArray, List.set_cons_zero, List.set_cons_succ] at hK ⊢
        clear hn
        clear hF
        have t1 : vs 1 = .pointer (some ⟨cb, 0, none⟩) := hT 1 (by decide)
        have t2 : vs 2 = .pointer (some ⟨cb, 0, none⟩) := hT 2 (by decide)
        have t3 : vs 3 = .pointer (some ⟨cb, 1, none⟩) := hT 3 (by decide)
        have t4 : vs 4 = .slice A2 st.2.length k2 := hT 4 (by decide)
        have t5 : vs 5 = .slice (some ⟨g, o, none⟩) 4 cp := hT 5 (by decide)
        have t6 : vs 6 = .pointer (some ⟨g, o + 3, none⟩) := hT 6 (by decide)
        have t7 : vs 7 = .string c := hT 7 (by decide)
        have t8 : vs 8 = .slice (some ⟨g, o, none⟩) 4 cp := hT 8 (by decide)
        have t9 : vs 9 = .pointer (some ⟨g, o + 1, none⟩) := hT 9 (by decide)
        have t10 : vs 10 = .string a := hT 10 (by decide)
        have t11 : vs 11 = .slice (some ⟨g, o, none⟩) 4 cp := hT 11 (by decide)
        have t12 : vs 12 = .pointer (some ⟨g, o, none⟩) := hT 12 (by decide)
        have t13 : vs 13 = .string x := hT 13 (by decide)
        have t14 : vs 14 = .bool true := hT 14 (by decide)
        have t15 : vs 15 = .agg #[.string c, .string a, .bool true] := hT 15 (by decide)
        have t16 : ∃ q : Nat, vs 16 = .slice (some ⟨q, 0, none⟩) 1 1 ∧ w1.heap.size ≤ q ∧ W.heap[q]? = some (.cells #[.string c, .string a, .bool true] 51 (0, 0)) := hT 16 (by decide)
        obtain ⟨bq, e21, hbq, k21⟩ := t16
        simp only [e21] at hK
        have HSZ := Lib.hid hG
        have hsz := hG.size
        have hszd : w1.heap.size ≤ W.heap.size := hsz
        simp only [t1, t2, t3, t4, t5, t6, t7, t8, t9, t10, t11, t12, t13, t14, t15] at hK
        have H := Lib.hid hK
        clear hK hT
        simp only [t1, t2, t3, t4, t5, t6, t7, t8, t9, t10, t11, t12, t13, t14, t15, e21]
        refine wp_append_keep _ _ _ 27 rfl (cb + 1) 51 i0 _ 3 40 Tryz.underlying27 HIF.out.1 HIF.out.2.1 HIF.out.2.2.1 HIF.out.2.2.2 rfl (by omega) (.slice A2 st.2.length k2) st.2.length (st.2.flatMap encAl) rfl hI ⟨bq, 0, none⟩ 1 1 [.string c, .string a, .bool true] rfl rfl (fun j u hu => by rw [addr_new, cell_of_blk k21]; simpa using hu) (by intro u hu; simp at hu; rcases hu with rfl | rfl | rfl <;> rfl) (by unfold maxLen; omega) (by omega) (by omega) ?_
        intro v' w2 hown' hg' hk'
        obtain ⟨Av', cv', rfl, _, _⟩ := own_slice' hown'
        rw [HROW.out] at hg'
        exact H.out _ _ hg' ⟨_, _, rfl, hown'⟩ (fun h => by cases h) hk'
      exact Rg.nil
    · intro vs W hG hI hT hF
      have t0 : vs 0 = .pointer (some ⟨cb, 0, none⟩) := hT 0 (by decide)
      have t1 : vs 1 = .pointer (some ⟨cb, 0, none⟩) := hT 1 (by decide)
      have t2 : vs 2 = .pointer (some ⟨cb, 0, none⟩) := hT 2 (by decide)
      have t3 : vs 3 = .pointer (some ⟨cb, 1, none⟩) := hT 3 (by decide)
      have t4 : vs 4 = .slice A2 st.2.length k2 := hT 4 (by decide)
      have t5 : vs 5 = .slice (some ⟨g, o, none⟩) 4 cp := hT 5 (by decide)
      have t6 : vs 6 = .pointer (some ⟨g, o + 3, none⟩) := hT 6 (by decide)
      have t7 : vs 7 = .string c := hT 7 (by decide)
      have t8 : vs 8 = .slice (some ⟨g, o, none⟩) 4 cp := hT 8 (by decide)
      have t9 : vs 9 = .pointer (some ⟨g, o + 1, none⟩) := hT 9 (by decide)
      have t10 : vs 10 = .string a := hT 10 (by decide)
      have t11 : vs 11 = .slice (some ⟨g, o, none⟩) 4 cp := hT 11 (by decide)
      have t12 : vs 12 = .pointer (some ⟨g, o, none⟩) := hT 12 (by decide)
      have t13 : vs 13 = .string x := hT 13 (by decide)
      have t14 : vs 14 = .bool true := hT 14 (by decide)
      have t15 : vs 15 = .agg #[.string c, .string a, .bool true] := hT 15 (by decide)
      have t16 : ∃ q : Nat, vs 16 = .slice (some ⟨q, 0, none⟩) 1 1 ∧ w1.heap.size ≤ q ∧ W.heap[q]? = some (.cells #[.string c, .string a, .bool true] 51 (0, 0)) := hT 16 (by decide)
      have t17 : ∃ (A : Option Addr) (c9 : Nat), vs 17 = .slice A (st.2.length + 1) c9 ∧ W.ownsRow (cb + 1) 51 3 (.slice A (st.2.length + 1) c9) (st.2.length + 1) (st.2.flatMap encAl ++ [.string c, .string a, .bool true]) := hT 17 (by decide)
      simp only [List.length_cons, List.length_nil, Nat.reduceAdd, List.range, List.range.loop, List.drop_succ_cons, List.drop_zero, Rg.putsD, List.getD_cons_zero, List.getD_cons_succ, Act.put, List.setIfInBounds_toArray, List.set_cons_zero, List.set_cons_succ, t0, t1, t2, t3, t4, t5, t6, t7, t8, t9, t10, t11, t12, t13, t14, t15]
      clear hT t0 t1 t2 t3 t4 t5 t6 t7 t8 t9 t10 t11 t12 t13 t14 t15
      obtain ⟨A9, c9, e22, own22⟩ := t17
      obtain ⟨c3', f3', b3'⟩ := HC3.out W hG
      have HW : Hid (w1.drew.grownBy W row ∧ W.ownsRow (cb + 1) 51 3 (.slice A9 (st.2.length + 1) c9) (st.2.length + 1) (st.2.flatMap encAl ++ [.string c, .string a, .bool true]) ∧ W.heap[cb]? = some (.cells #[.slice A1 st.1.length k1, .slice A2 st.2.length k2] 29 (0, 0)) ∧ W.ownsRow (cb + 1) 47 4 (.slice A1 st.1.length k1) st.1.length (st.1.flatMap encPa)) := ⟨hG, own22, b3', (HP.out.2.2.1.drew).kept hG HAP.out⟩
      have hcW := lt_of_blk b3'
      clear hF hI own22 b3' t16
      simp only [e22]
      clear e22 hG
      go_wp2_with fail
      have HF : Hid (Below base w1 (W.setCell ⟨cb, 1, none⟩ (.slice A9 (st.2.length + 1) c9)) ∧ CatAt cb (i + 1) (st.1, st.2 ++ [⟨c, a, true⟩]) (W.setCell ⟨cb, 1, none⟩ (.slice A9 (st.2.length + 1) c9))) := by
        refine ⟨(((Below.refl base w1).drew).grown HW.out.1 (by show base ≤ w1.heap.size; omega) (fun k hk => by have := HRow.out k hk; omega)).setCell hcb _, ⟨_, _, blk_set HW.out.2.2.1 _, own_far HW.out.2.2.2 (p := ⟨cb, 1, none⟩) (by show cb < cb + 1; omega) _, ?_⟩, ?_, HS9.out.1, ?_⟩
        · have := own_far HW.out.2.1 (p := ⟨cb, 1, none⟩) (by show cb < cb + 1; omega) (.slice A9 (st.2.length + 1) c9)
          rw [List.length_append, flatAl_snoc]
          exact this
        · rw [List.length_append]
          show st.1.length + (st.2.length + 1) ≤ i + 1
          omega
        · intro p hp
          rcases List.mem_append.mp hp with hp | hp
          · exact HS9.out.2 p hp
          · have : p = ⟨c, a, true⟩ := by simpa using hp
            subst this
            exact HZ.out
      generalize W.setCell ⟨cb, 1, none⟩ (.slice A9 (st.2.length + 1) c9) = w3 at *
      go_wp2_with fail
      go_ret
      exact ⟨by rw [HR.out]; rfl, HF.out.1, fun st' h => by rw [HR.out] at h; cases h; exact HF.out.2⟩
  · obtain ⟨bo, hb⟩ : ∃ bo, (x.toList == [98, 111, 116, 104]) = bo := ⟨_, rfl⟩
    have HR := Lib.hid (HY.out (by rw [hu]; rfl) hf)
    rw [hb] at HR
    clear HX HY
    go_enter Tryz.func39, Tryz.ntmps39
    go_wp2_with fail
    refine Rg.rgS 17 [0] (fun a b => a.grownBy b row) (fun a b => Below a.heap.size a b) (fun a b => a.grownBy b row)
      [(fun vs u => vs 0 = .pointer (some ⟨cb, 0, none⟩)), (fun vs u => vs 1 = .pointer (some ⟨cb, 0, none⟩)), (fun vs u => vs 2 = .pointer (some ⟨cb, 0, none⟩)), (fun vs u => vs 3 = .pointer (some ⟨cb, 1, none⟩)), (fun vs u => vs 4 = .slice A2 st.2.length k2), (fun vs u => vs 5 = .slice (some ⟨g, o, none⟩) 4 cp), (fun vs u => vs 6 = .pointer (some ⟨g, o + 3, none⟩)), (fun vs u => vs 7 = .string c), (fun vs u => vs 8 = .slice (some ⟨g, o, none⟩) 4 cp), (fun vs u => vs 9 = .pointer (some ⟨g, o + 1, none⟩)), (fun vs u => vs 10 = .string a), (fun vs u => vs 11 = .slice (some ⟨g, o, none⟩) 4 cp), (fun vs u => vs 12 = .pointer (some ⟨g, o, none⟩)), (fun vs u => vs 13 = .string x), (fun vs u => vs 14 = .bool bo), (fun vs u => vs 15 = .agg #[.string c, .string a, .bool bo]), (fun vs u => ∃ q : Nat, vs 16 = .slice (some ⟨q, 0, none⟩) 1 1 ∧ w1.heap.size ≤ q ∧ u.heap[q]? = some (.cells #[.string c, .string a, .bool bo] 51 (0, 0))), (fun vs u => ∃ (A : Option Addr) (c9 : Nat), vs 17 = .slice A (st.2.length + 1) c9 ∧ u.ownsRow (cb + 1) 51 3 (.slice A (st.2.length + 1) c9) (st.2.length + 1) (st.2.flatMap encAl ++ [.string c, .string a, .bool bo]))]
      [[], [], [1], [1, 2], [1, 2, 3], [], [5], [5, 6], [], [8], [8, 9], [], [11], [11, 12], [11, 12, 13], [5, 6, 7, 8, 9, 10, 11, 12, 13, 14], [5, 6, 7, 8, 9, 10, 11, 12, 13, 14, 15], [1, 2, 3, 4, 5, 6, 7, 8, 9, 10, 11, 12, 13, 14, 15, 16]] [some 26, some 27, some 28, some 29, some 30, some 31, some 32, some 33, some 34, some 35, some 36, some 37, some 38, some 39, some 40, some 41, some 42, some 43, some 44, some 45, none] [] (fun _ W => W.ownsRow (cb + 1) 51 3 (.slice A2 st.2.length k2) st.2.length (st.2.flatMap encAl)) [[], [], [1], [1, 2], [1, 2, 3], [], [5], [5, 6], [], [8], [8, 9], [], [11], [11, 12], [11, 12, 13], [5, 6, 7, 8, 9, 10, 11, 12, 13, 14], [5, 6, 7, 8, 9, 10, 11, 12, 13, 14, 15], [1, 2, 3, 4, 5, 6, 7, 8, 9, 10, 11, 12, 13, 14, 15, 16], [0, 1, 2, 3, 4, 5, 6, 7, 8, 9, 10, 11, 12, 13, 14, 15, 16, 17], [0, 1, 2, 3, 4, 5, 6, 7, 8, 9, 10, 11, 12, 13, 14, 15, 16, 17, 18], [0, 1, 2, 3, 4, 5, 6, 7, 8, 9, 10, 11, 12, 13, 14, 15, 16, 17, 18, 19]]
      (by kernel_rfl) (by decide) (by kernel_rfl) (by kernel_rfl) (by kernel_rfl) (by kernel_rfl) (by kernel_rfl) (fun _ => World.grownBy.refl _ _) (fun _ _ _ h k => World.grownBy.trans h k) (fun _ _ h => h.size) (fun _ _ h => ⟨h.os, h.tape, h.output, h.size, fun k hk _ => h.block k hk⟩) (fun _ _ h => h) (by decide) ?_ ?_ HO.out.drew ?_ ?_
    · intro j hj vs w w' h hE
      match j, hj, h with
      | 0, _, h => exact h
      | 1, _, h => exact h
      | 2, _, h => exact h
      | 3, _, h => exact h
      | 4, _, h => exact h
      | 5, _, h => exact h
      | 6, _, h => exact h
      | 7, _, h => exact h
      | 8, _, h => exact h
      | 9, _, h => exact h
      | 10, _, h => exact h
      | 11, _, h => exact h
      | 12, _, h => exact h
      | 13, _, h => exact h
      | 14, _, h => exact h
      | 15, _, h => exact h
      | 16, _, h =>
        have h : ∃ q : Nat, vs 16 = .slice (some ⟨q, 0, none⟩) 1 1 ∧ w1.heap.size ≤ q ∧ w.heap[q]? = some (.cells #[.string c, .string a, .bool bo] 51 (0, 0)) := h
        show ∃ q : Nat, vs 16 = .slice (some ⟨q, 0, none⟩) 1 1 ∧ w1.heap.size ≤ q ∧ w'.heap[q]? = some (.cells #[.string c, .string a, .bool bo] 51 (0, 0))
        obtain ⟨q, e, hq, k⟩ := h
        exact ⟨q, e, hq, blk_below hE k⟩
      | 17, hj, _ => exact absurd rfl hj
      | (j + 18), _, h => exact h
    · intro j hj hc vs w w' h hE
      match j, hj, hc, h with
      | 0, _, _, h => exact h
      | 1, _, _, h => exact h
      | 2, _, _, h => exact h
      | 3, _, _, h => exact h
      | 4, _, _, h => exact h
      | 5, _, _, h => exact h
      | 6, _, _, h => exact h
      | 7, _, _, h => exact h
      | 8, _, _, h => exact h
      | 9, _, _, h => exact h
      | 10, _, _, h => exact h
      | 11, _, _, h => exact h
      | 12, _, _, h => exact h
      | 13, _, _, h => exact h
      | 14, _, _, h => exact h
      | 15, _, _, h => exact h
      | 16, _, _, h =>
        have h : ∃ q : Nat, vs 16 = .slice (some ⟨q, 0, none⟩) 1 1 ∧ w1.heap.size ≤ q ∧ w.heap[q]? = some (.cells #[.string c, .string a, .bool bo] 51 (0, 0)) := h
        show ∃ q : Nat, vs 16 = .slice (some ⟨q, 0, none⟩) 1 1 ∧ w1.heap.size ≤ q ∧ w'.heap[q]? = some (.cells #[.string c, .string a, .bool bo] 51 (0, 0))
        obtain ⟨q, e, hq, k⟩ := h
        exact ⟨q, e, hq, (hE.block q (lt_of_blk k) (fun e => by have := HRW.out q e.symm; omega)).trans k⟩
      | 17, hj, _, _ => exact absurd rfl hj
      | (j + 18), _, _, h => exact h
    ·
      refine Rg.cons 0 1 rfl (Rg.plain rfl ?_) ?_
      · intro vs W n hn hI hG hT hF K hK
        simp only [Rg.putsD, List.getD_cons_zero, List.getD_cons_succ, Act.put, List.setIfInBounds_toArray, List.set_cons_zero, List.set_cons_succ] at hK ⊢
        clear hn
        clear hF
        have H := Lib.hid hK
        clear hK hT
        go_simp
        exact H.out _ _ (rfl) rfl (fun h => by cases h) hI
      refine Rg.cons 1 2 rfl (Rg.plain rfl ?_) ?_
      · intro vs W n hn hI hG hT hF K hK
        simp only [Rg.putsD, List.getD_cons_zero, List.getD_cons_succ, Act.put, List.setIfInBounds_toArray, List.set_cons_zero, List.set_cons_succ] at hK ⊢
        clear hn
        clear hF
        have H := Lib.hid hK
        clear hK hT
        go_simp
        exact H.out _ _ (Below.refl _ _) rfl (fun h => by cases h) hI
      refine Rg.cons 2 3 rfl (Rg.plain rfl ?_) ?_
      · intro vs W n hn hI hG hT hF K hK
        simp only [Rg.putsD, List.getD_cons_zero, List.getD_cons_succ, Act.put, List.setIfInBounds_toArray, List.set_cons_zero, List.set_cons_succ] at hK ⊢
        clear hn
        clear hF
        have t1 : vs 1 = .pointer (some ⟨cb, 0, none⟩) := hT 1 (by decide)
        simp only [t1] at hK
        have H := Lib.hid hK
        clear hK hT
        go_simp
        exact H.out _ _ (Below.refl _ _) rfl (fun h => by cases h) hI
      refine Rg.cons 3 4 rfl (Rg.plain rfl ?_) ?_
      · intro vs W n hn hI hG hT hF K hK
        simp only [Rg.putsD, List.getD_cons_zero, List.getD_cons_succ, Act.put, List.setIfInBounds_toArray, List.set_cons_zero, List.set_cons_succ] at hK ⊢
        clear hn
        clear hF
        have t1 : vs 1 = .pointer (some ⟨cb, 0, none⟩) := hT 1 (by decide)
        have t2 : vs 2 = .pointer (some ⟨cb, 0, none⟩) := hT 2 (by decide)
        simp only [t1, t2] at hK
        have H := Lib.hid hK
        clear hK hT
        go_simp
        exact H.out _ _ (Below.refl _ _) rfl (fun h => by cases h) hI
      refine Rg.cons 4 5 rfl (Rg.plain rfl ?_) ?_
      · intro vs W n hn hI hG hT hF K hK
        simp only [Rg.putsD, List.getD_cons_zero, List.getD_cons_succ, Act.put, List.setIfInBounds_toArray, List.set_cons_zero, List.set_cons_succ] at hK ⊢
        clear hn
        clear hF
        have t1 : vs 1 = .pointer (some ⟨cb, 0, none⟩) := hT 1 (by decide)
        have t2 : vs 2 = .pointer (some ⟨cb, 0, none⟩) := hT 2 (by decide)
        have t3 : vs 3 = .pointer (some ⟨cb, 1, none⟩) := hT 3 (by decide)
        have c0 := (HC3.out W hG).1
        simp only [t1, t2, t3] at hK
        have H := Lib.hid hK
        clear hK hT
        go_simp
        exact H.out _ _ (Below.refl _ _) rfl (fun h => by cases h) hI
      refine Rg.cons 5 6 rfl (Rg.plain rfl ?_) ?_
      · intro vs W n hn hI hG hT hF K hK
        simp only [Rg.putsD, List.getD_cons_zero, List.getD_cons_succ, Act.put, List.setIfInBounds_toArray, List.set_cons_zero, List.set_cons_succ] at hK ⊢
        clear hn
        clear hF
        have H := Lib.hid hK
        clear hK hT
        go_simp
        exact H.out _ _ (Below.refl _ _) rfl (fun h => by cases h) hI
      refine Rg.cons 6 7 rfl (Rg.plain rfl ?_) ?_
      · intro vs W n hn hI hG hT hF K hK
        simp only [Rg.putsD, List.getD_cons_zero, List.getD_cons_succ, Act.put, List.setIfInBounds_toArray, List.set_cons_zero, List.set_cons_succ] at hK ⊢
        clear hn
        clear hF
        have t5 : vs 5 = .slice (some ⟨g, o, none⟩) 4 cp := hT 5 (by decide)
        simp only [t5] at hK
        have H := Lib.hid hK
        clear hK hT
        go_simp
        exact H.out _ _ (Below.refl _ _) rfl (fun h => by cases h) hI
      refine Rg.cons 7 8 rfl (Rg.plain rfl ?_) ?_
      · intro vs W n hn hI hG hT hF K hK
        simp only [Rg.putsD, List.getD_cons_zero, List.getD_cons_succ, Act.put, List.setIfInBounds_toArray, List.set_cons_zero, List.set_cons_succ] at hK ⊢
        clear hn
        clear hF
        have t5 : vs 5 = .slice (some ⟨g, o, none⟩) 4 cp := hT 5 (by decide)
        have t6 : vs 6 = .pointer (some ⟨g, o + 3, none⟩) := hT 6 (by decide)
        have c0 := (HKS.out W hG).2.2
        simp only [t5, t6] at hK
        have H := Lib.hid hK
        clear hK hT
        go_simp
        exact H.out _ _ (Below.refl _ _) rfl (fun h => by cases h) hI
      refine Rg.cons 8 9 rfl (Rg.plain rfl ?_) ?_
      · intro vs W n hn hI hG hT hF K hK
        simp only [Rg.putsD, List.getD_cons_zero, List.getD_cons_succ, Act.put, List.setIfInBounds_toArray, List.set_cons_zero, List.set_cons_succ] at hK ⊢
        clear hn
        clear hF
        have H := Lib.hid hK
        clear hK hT
        go_simp
        exact H.out _ _ (Below.refl _ _) rfl (fun h => by cases h) hI
      refine Rg.cons 9 10 rfl (Rg.plain rfl ?_) ?_
      · intro vs W n hn hI hG hT hF K hK
        simp only [Rg.putsD, List.getD_cons_zero, List.getD_cons_succ, Act.put, List.setIfInBounds_toArray, List.set_cons_zero, List.set_cons_succ] at hK ⊢
        clear hn
        clear hF
        have t8 : vs 8 = .slice (some ⟨g, o, none⟩) 4 cp := hT 8 (by decide)
        simp only [t8] at hK
        have H := Lib.hid hK
        clear hK hT
        go_simp
        exact H.out _ _ (Below.refl _ _) rfl (fun h => by cases h) hI
      refine Rg.cons 10 11 rfl (Rg.plain rfl ?_) ?_
      · intro vs W n hn hI hG hT hF K hK
        simp only [Rg.putsD, List.getD_cons_zero, List.getD_cons_succ, Act.put, List.setIfInBounds_toArray, List.set_cons_zero, List.set_cons_succ] at hK ⊢
        clear hn
        clear hF
        have t8 : vs 8 = .slice (some ⟨g, o, none⟩) 4 cp := hT 8 (by decide)
        have t9 : vs 9 = .pointer (some ⟨g, o + 1, none⟩) := hT 9 (by decide)
        have c0 := (HKS.out W hG).2.1
        simp only [t8, t9] at hK
        have H := Lib.hid hK
        clear hK hT
        go_simp
        exact H.out _ _ (Below.refl _ _) rfl (fun h => by cases h) hI
      refine Rg.cons 11 12 rfl (Rg.plain rfl ?_) ?_
      · intro vs W n hn hI hG hT hF K hK
        simp only [Rg.putsD, List.getD_cons_zero, List.getD_cons_succ, Act.put, List.setIfInBounds_toArray, List.set_cons_zero, List.set_cons_succ] at hK ⊢
        clear hn
        clear hF
        have H := Lib.hid hK
        clear hK hT
        go_simp
        exact H.out _ _ (Below.refl _ _) rfl (fun h => by cases h) hI
      refine Rg.cons 12 13 rfl (Rg.plain rfl ?_) ?_
      · intro vs W n hn hI hG hT hF K hK
        simp only [Rg.putsD, List.getD_cons_zero, List.getD_cons_succ, Act.put, List.setIfInBounds_toArray, List.set_cons_zero, List.set_cons_succ] at hK ⊢
        clear hn
        clear hF
        have t11 : vs 11 = .slice (some ⟨g, o, none⟩) 4 cp := hT 11 (by decide)
        simp only [t11] at hK
        have H := Lib.hid hK
        clear hK hT
        go_simp
        exact H.out _ _ (Below.refl _ _) rfl (fun h => by cases h) hI
      refine Rg.cons 13 14 rfl (Rg.plain rfl ?_) ?_
      · intro vs W n hn hI hG hT hF K hK
        simp only [Rg.putsD, List.getD_cons_zero, List.getD_cons_succ, Act.put, List.setIfInBounds_toArray, List.set_cons_zero, List.set_cons_succ] at hK ⊢
        clear hn
        clear hF
        have t11 : vs 11 = .slice (some ⟨g, o, none⟩) 4 cp := hT 11 (by decide)
        have t12 : vs 12 = .pointer (some ⟨g, o, none⟩) := hT 12 (by decide)
        have c0 := (HKS.out W hG).1
        simp only [t11, t12] at hK
        have H := Lib.hid hK
        clear hK hT
        go_simp
        exact H.out _ _ (Below.refl _ _) rfl (fun h => by cases h) hI
      refine Rg.cons 14 15 rfl (Rg.plain rfl ?_) ?_
      · intro vs W n hn hI hG hT hF K hK
        simp only [Rg.putsD, List.getD_cons_zero, List.getD_cons_succ, Act.put, List.setIfInBounds_toArray, List.set_cons_zero, List.set_cons_succ] at hK ⊢
        clear hn
        clear hF
        have t11 : vs 11 = .slice (some ⟨g, o, none⟩) 4 cp := hT 11 (by decide)
        have t12 : vs 12 = .pointer (some ⟨g, o, none⟩) := hT 12 (by decide)
        have t13 : vs 13 = .string x := hT 13 (by decide)
        simp only [t11, t12, t13] at hK
        have H := Lib.hid hK
        clear hK hT
        go_simp
        exact H.out _ _ (Below.refl _ _) rfl (fun h => by cases h) hI
      refine Rg.cons 15 16 rfl (Rg.plain rfl ?_) ?_
      · intro vs W n hn hI hG hT hF K hK
        simp only [Rg.putsD, List.getD_cons_zero, List.getD_cons_succ, Act.put, List.setIfInBounds_toArray, List.set_cons_zero, List.set_cons_succ] at hK ⊢
        clear hn
        clear hF
        have t5 : vs 5 = .slice (some ⟨g, o, none⟩) 4 cp := hT 5 (by decide)
        have t6 : vs 6 = .pointer (some ⟨g, o + 3, none⟩) := hT 6 (by decide)
        have t7 : vs 7 = .string c := hT 7 (by decide)
        have t8 : vs 8 = .slice (some ⟨g, o, none⟩) 4 cp := hT 8 (by decide)
        have t9 : vs 9 = .pointer (some ⟨g, o + 1, none⟩) := hT 9 (by decide)
        have t10 : vs 10 = .string a := hT 10 (by decide)
        have t11 : vs 11 = .slice (some ⟨g, o, none⟩) 4 cp := hT 11 (by decide)
        have t12 : vs 12 = .pointer (some ⟨g, o, none⟩) := hT 12 (by decide)
        have t13 : vs 13 = .string x := hT 13 (by decide)
        have t14 : vs 14 = .bool bo := hT 14 (by decide)
        simp only [t5, t6, t7, t8, t9, t10, t11, t12, t13, t14] at hK
        have H := Lib.hid hK
        clear hK hT
        go_simp
        exact H.out _ _ (Below.refl _ _) rfl (fun h => by cases h) hI
      refine Rg.cons 16 17 rfl (Rg.plain rfl ?_) ?_
      · intro vs W n hn hI hG hT hF K hK
        simp only [Rg.putsD, List.getD_cons_zero, List.getD_cons_succ, Act.put, List.setIfInBounds_toArray, List.set_cons_zero, List.set_cons_succ] at hK ⊢
        clear hn
        clear hF
        have t5 : vs 5 = .slice (some ⟨g, o, none⟩) 4 cp := hT 5 (by decide)
        have t6 : vs 6 = .pointer (some ⟨g, o + 3, none⟩) := hT 6 (by decide)
        have t7 : vs 7 = .string c := hT 7 (by decide)
        have t8 : vs 8 = .slice (some ⟨g, o, none⟩) 4 cp := hT 8 (by decide)
        have t9 : vs 9 = .pointer (some ⟨g, o + 1, none⟩) := hT 9 (by decide)
        have t10 : vs 10 = .string a := hT 10 (by decide)
        have t11 : vs 11 = .slice (some ⟨g, o, none⟩) 4 cp := hT 11 (by decide)
        have t12 : vs 12 = .pointer (some ⟨g, o, none⟩) := hT 12 (by decide)
        have t13 : vs 13 = .string x := hT 13 (by decide)
        have t14 : vs 14 = .bool bo := hT 14 (by decide)
        have t15 : vs 15 = .agg #[.string c, .string a, .bool bo] := hT 15 (by decide)
        have hsz := hG.size
        simp only [t5, t6, t7, t8, t9, t10, t11, t12, t13, t14, t15] at hK
        have H := Lib.hid hK
        clear hK hT
        go_simp
        exact H.out _ _ ((Below.refl _ _).alloc (Nat.le_refl _) _) (show ∃ q : Nat, _ = _ ∧ _ ∧ _ = _ from ⟨_, rfl, hsz, blk_new W _ rfl⟩) (fun h => by cases h) (World.ownsRow.alloc hI _)
      refine Rg.cons 17 18 rfl (Rg.plain rfl ?_) ?_
      · intro vs W n hn hI hG hT hF K hK
        simp only [Rg.putsD, List.getD_cons_zero, List.getD_cons_succ, Act.put, List.setIfInBounds_toArray, List.set_cons_zero, List.set_cons_succ] at hK ⊢
        clear hn
        clear hF
        have t1 : vs 1 = .pointer (some ⟨cb, 0, none⟩) := hT 1 (by decide)
        have t2 : vs 2 = .pointer (some ⟨cb, 0, none⟩) := hT 2 (by decide)
        have t3 : vs 3 = .pointer (some ⟨cb, 1, none⟩) := hT 3 (by decide)
        have t4 : vs 4 = .slice A2 st.2.length k2 := hT 4 (by decide)
        have t5 : vs 5 = .slice (some ⟨g, o, none⟩) 4 cp := hT 5 (by decide)
        have t6 : vs 6 = .pointer (some ⟨g, o + 3, none⟩) := hT 6 (by decide)
        have t7 : vs 7 = .string c := hT 7 (by decide)
        have t8 : vs 8 = .slice (some ⟨g, o, none⟩) 4 cp := hT 8 (by decide)
        have t9 : vs 9 = .pointer (some ⟨g, o + 1, none⟩) := hT 9 (by decide)
        have t10 : vs 10 = .string a := hT 10 (by decide)
        have t11 : vs 11 = .slice (some ⟨g, o, none⟩) 4 cp := hT 11 (by decide)
        have t12 : vs 12 = .pointer (some ⟨g, o, none⟩) := hT 12 (by decide)
        have t13 : vs 13 = .string x := hT 13 (by decide)
        have t14 : vs 14 = .bool bo := hT 14 (by decide)
        have t15 : vs 15 = .agg #[.string c, .string a, .bool bo] := hT 15 (by decide)
        have t16 : ∃ q : Nat, vs 16 = .slice (some ⟨q, 0, none⟩) 1 1 ∧ w1.heap.size ≤ q ∧ W.heap[q]? = some (.cells #[.string c, .string a, .bool bo] 51 (0, 0)) := hT 16 (by decide)
        obtain ⟨bq, e21, hbq, k21⟩ := t16
        simp only [e21] at hK
        have HSZ := Lib.hid hG
        have hsz := hG.size
        have hszd : w1.heap.size ≤ W.heap.size := hsz
        simp only [t1, t2, t3, t4, t5, t6, t7, t8, t9, t10, t11, t12, t13, t14, t15] at hK
        have H := Lib.hid hK
        clear hK hT
        simp only [t1, t2, t3, t4, t5, t6, t7, t8, t9, t10, t11, t12, t13, t14, t15, e21]
        refine wp_append_keep _ _ _ 27 rfl (cb + 1) 51 i0 _ 3 40 Tryz.underlying27 HIF.out.1 HIF.out.2.1 HIF.out.2.2.1 HIF.out.2.2.2 rfl (by omega) (.slice A2 st.2.length k2) st.2.length (st.2.flatMap encAl) rfl hI ⟨bq, 0, none⟩ 1 1 [.string c, .string a, .bool bo] rfl rfl (fun j u hu => by rw [addr_new, cell_of_blk k21]; simpa using hu) (by intro u hu; simp at hu; rcases hu with rfl | rfl | rfl <;> rfl) (by unfold maxLen; omega) (by omega) (by omega) ?_
        intro v' w2 hown' hg' hk'
        obtain ⟨Av', cv', rfl, _, _⟩ := own_slice' hown'
        rw [HROW.out] at hg'
        exact H.out _ _ hg' ⟨_, _, rfl, hown'⟩ (fun h => by cases h) hk'
      exact Rg.nil
    · intro vs W hG hI hT hF
      have t0 : vs 0 = .pointer (some ⟨cb, 0, none⟩) := hT 0 (by decide)
      have t1 : vs 1 = .pointer (some ⟨cb, 0, none⟩) := hT 1 (by decide)
      have t2 : vs 2 = .pointer (some ⟨cb, 0, none⟩) := hT 2 (by decide)
      have t3 : vs 3 = .pointer (some ⟨cb, 1, none⟩) := hT 3 (by decide)
      have t4 : vs 4 = .slice A2 st.2.length k2 := hT 4 (by decide)
      have t5 : vs 5 = .slice (some ⟨g, o, none⟩) 4 cp := hT 5 (by decide)
      have t6 : vs 6 = .pointer (some ⟨g, o + 3, none⟩) := hT 6 (by decide)
      have t7 : vs 7 = .string c := hT 7 (by decide)
      have t8 : vs 8 = .slice (some ⟨g, o, none⟩) 4 cp := hT 8 (by decide)
      have t9 : vs 9 = .pointer (some ⟨g, o + 1, none⟩) := hT 9 (by decide)
      have t10 : vs 10 = .string a := hT 10 (by decide)
      have t11 : vs 11 = .slice (some ⟨g, o, none⟩) 4 cp := hT 11 (by decide)
      have t12 : vs 12 = .pointer (some ⟨g, o, none⟩) := hT 12 (by decide)
      have t13 : vs 13 = .string x := hT 13 (by decide)
      have t14 : vs 14 = .bool bo := hT 14 (by decide)
      have t15 : vs 15 = .agg #[.string c, .string a, .bool bo] := hT 15 (by decide)
      have t16 : ∃ q : Nat, vs 16 = .slice (some ⟨q, 0, none⟩) 1 1 ∧ w1.heap.size ≤ q ∧ W.heap[q]? = some (.cells #[.string c, .string a, .bool bo] 51 (0, 0)) := hT 16 (by decide)
      have t17 : ∃ (A : Option Addr) (c9 : Nat), vs 17 = .slice A (st.2.length + 1) c9 ∧ W.ownsRow (cb + 1) 51 3 (.slice A (st.2.length + 1) c9) (st.2.length + 1) (st.2.flatMap encAl ++ [.string c, .string a, .bool bo]) := hT 17 (by decide)
      simp only [List.length_cons, List.length_nil, Nat.reduceAdd, List.range, List.range.loop, List.drop_succ_cons, List.drop_zero, Rg.putsD, List.getD_cons_zero, List.getD_cons_succ, Act.put, List.setIfInBounds_toArray, List.set_cons_zero, List.set_cons_succ, t0, t1, t2, t3, t4, t5, t6, t7, t8, t9, t10, t11, t12, t13, t14, t15]
      clear hT t0 t1 t2 t3 t4 t5 t6 t7 t8 t9 t10 t11 t12 t13 t14 t15
      obtain ⟨A9, c9, e22, own22⟩ := t17
      obtain ⟨c3', f3', b3'⟩ := HC3.out W hG
      have HW : Hid (w1.drew.grownBy W row ∧ W.ownsRow (cb + 1) 51 3 (.slice A9 (st.2.length + 1) c9) (st.2.length + 1) (st.2.flatMap encAl ++ [.string c, .string a, .bool bo]) ∧ W.heap[cb]? = some (.cells #[.slice A1 st.1.length k1, .slice A2 st.2.length k2] 29 (0, 0)) ∧ W.ownsRow (cb + 1) 47 4 (.slice A1 st.1.length k1) st.1.length (st.1.flatMap encPa)) := ⟨hG, own22, b3', (HP.out.2.2.1.drew).kept hG HAP.out⟩
      have hcW := lt_of_blk b3'
      clear hF hI own22 b3' t16
      simp only [e22]
      clear e22 hG
      go_wp2_with fail
      have HF : Hid (Below base w1 (W.setCell ⟨cb, 1, none⟩ (.slice A9 (st.2.length + 1) c9)) ∧ CatAt cb (i + 1) (st.1, st.2 ++ [⟨c, a, bo⟩]) (W.setCell ⟨cb, 1, none⟩ (.slice A9 (st.2.length + 1) c9))) := by
        refine ⟨(((Below.refl base w1).drew).grown HW.out.1 (by show base ≤ w1.heap.size; omega) (fun k hk => by have := HRow.out k hk; omega)).setCell hcb _, ⟨_, _, blk_set HW.out.2.2.1 _, own_far HW.out.2.2.2 (p := ⟨cb, 1, none⟩) (by show cb < cb + 1; omega) _, ?_⟩, ?_, HS9.out.1, ?_⟩
        · have := own_far HW.out.2.1 (p := ⟨cb, 1, none⟩) (by show cb < cb + 1; omega) (.slice A9 (st.2.length + 1) c9)
          rw [List.length_append, flatAl_snoc]
          exact this
        · rw [List.length_append]
          show st.1.length + (st.2.length + 1) ≤ i + 1
          omega
        · intro p hp
          rcases List.mem_append.mp hp with hp | hp
          · exact HS9.out.2 p hp
          · have : p = ⟨c, a, bo⟩ := by simpa using hp
            subst this
            exact HZ.out
      generalize W.setCell ⟨cb, 1, none⟩ (.slice A9 (st.2.length + 1) c9) = w3 at *
      go_wp2_with fail
      go_ret
      exact ⟨by rw [HR.out]; rfl, HF.out.1, fun st' h => by rw [HR.out] at h; cases h; exact HF.out.2⟩

set_option maxHeartbeats 2000000 in
theorem readCat_takes (cb base : Nat) (hcb : base ≤ cb) : Takes 37 cb base takeCat (CatAt cb) := by
  intro i st ws v w0 w hi hne hl hz hd hbw hI hb hS
  have C1 := Lib.hid (readPart_any hi hz hcb hbw hI hb hS)
  have C2 := Lib.hid (readAlt_any hi hz hcb hbw hI hb hS)
  obtain ⟨x, r, rfl⟩ : ∃ x r, ws = x :: r := by cases ws with | nil => exact absurd rfl hne | cons a b => exact ⟨a, b, rfl⟩
  obtain ⟨A, cp, rfl, hc, hr⟩ := hS.strs
  obtain ⟨g, o, rfl, hgl, hcs⟩ : ∃ g o : Nat, A = some ⟨g, o, none⟩ ∧ g < w.heap.size ∧ ∀ j (h : j < (x :: r).length), w.cell? ⟨g, o + j, none⟩ = some (.string (x :: r)[j]) := by
    rcases hr with hr | hr
    · cases hr
    · exact hr
  have q0 := hcs 0 (by simp)
  simp only [Nat.add_zero, List.getElem_cons_zero] at q0
  have HT : Hid (takeCat i st (x :: r) = if isPart x = true then takePart st (x :: r) else takeAlt st (x :: r)) := rfl
  unfold isPart at HT
  clear hcs hr hz hd hI hb hS
  cases hx : (x.toList == [112, 97, 114, 116])
  · have HR := Lib.hid (HT.out.trans (if_neg (by rw [hx]; simp)))
    clear C1 HT
    go_enter Tryz.func37, Tryz.ntmps37
    go_wp2_with fail
    refine C2.out.mono ?_
    rintro e w1 ⟨rfl, b1, h1⟩
    have HF := Lib.hid (And.intro b1 h1)
    clear b1 h1
    go_wp2_with fail
    go_ret
    exact ⟨by rw [HR.out]; rfl, HF.out.1, fun st' h => HF.out.2 st' (by rw [← HR.out]; exact h)⟩
  · have HR := Lib.hid (HT.out.trans (if_pos hx))
    clear C2 HT
    go_enter Tryz.func37, Tryz.ntmps37
    go_wp2_with fail
    refine C1.out.mono ?_
    rintro e w1 ⟨rfl, b1, h1⟩
    have HF := Lib.hid (And.intro b1 h1)
    clear b1 h1
    go_wp2_with fail
    go_ret
    exact ⟨by rw [HR.out]; rfl, HF.out.1, fun st' h => HF.out.2 st' (by rw [← HR.out]; exact h)⟩
end Go.Proofs.YtiooimfkobjpkaaGreatDoor
