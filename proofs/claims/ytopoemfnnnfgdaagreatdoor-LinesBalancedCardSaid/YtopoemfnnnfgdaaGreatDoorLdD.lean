/-
  Sorting a few numbers so that equal ones stay in order: insertion, in plain words, and its walk.
-/
import Derived.Test.YtopoemfnnnfgdaaGreatDoorLdC
import Derived.BigRegion
namespace Go.Proofs.YtopoemfnnnfgdaaGreatDoor
open Go.RowKit
set_option linter.unusedSimpArgs false
set_option linter.unusedVariables false

def insJ (c : Int → Int → Int) : Nat → List Int → List Int
  | 0, l => l
  | j + 1, l => if c (l.getD (j + 1) 0) (l.getD j 0) < 0 then insJ c j ((l.set (j + 1) (l.getD j 0)).set j (l.getD (j + 1) 0)) else l
def insI (c : Int → Int → Int) : Nat → List Int → List Int
  | 0, l => l
  | t + 1, l => insJ c (t + 1) (insI c t l)
def sortS (c : Int → Int → Int) (l : List Int) : List Int := insI c (l.length - 1) l
theorem swap_perm {l : List Int} {j : Nat} (h : j + 1 < l.length) : ((l.set (j + 1) (l.getD j 0)).set j (l.getD (j + 1) 0)).Perm l := by
  have e1 : l.getD j 0 = l[j] := by rw [List.getD_eq_getElem?_getD, List.getElem?_eq_getElem (by omega)]; rfl
  have e2 : l.getD (j + 1) 0 = l[j + 1] := by rw [List.getD_eq_getElem?_getD, List.getElem?_eq_getElem (by omega)]; rfl
  rw [e1, e2]
  exact List.set_set_perm (by omega) (by omega)
theorem insJ_perm (c : Int → Int → Int) : ∀ (j : Nat) (l : List Int), j < l.length → (insJ c j l).Perm l
  | 0, l, _ => List.Perm.refl _
  | j + 1, l, h => by
    rw [insJ]
    split
    · exact (insJ_perm c j _ (by simp; omega)).trans (swap_perm h)
    · exact List.Perm.refl _
theorem insI_perm (c : Int → Int → Int) : ∀ (t : Nat) (l : List Int), (t = 0 ∨ t < l.length) → (insI c t l).Perm l
  | 0, l, _ => List.Perm.refl _
  | t + 1, l, h => by
    have h1 := insI_perm c t l (by omega)
    rw [insI]
    exact (insJ_perm c (t + 1) _ (by rw [h1.length_eq]; omega)).trans h1
theorem sortS_perm (c : Int → Int → Int) (l : List Int) : (sortS c l).Perm l := insI_perm c _ l (by omega)
theorem getD_at {l : List Int} {j : Nat} (h : j < l.length) : l.getD j 0 = l[j] := by rw [List.getD_eq_getElem?_getD, List.getElem?_eq_getElem h]; rfl

set_option maxRecDepth 100000 in
set_option maxHeartbeats 8000000 in
theorem insertion_any {F : FuncId} (hFn : ∀ args w, (callFunc F args).run Tryz.prog w = .ok (.enter F args) w) (p : Nat) (c : Int → Int → Int) (N : Int) (base : Nat) (l : List Int) (hl : l.length ≤ 1000) (hin : ∀ x ∈ l, 0 ≤ x ∧ x < N) {A : Option Addr} {cc : Nat} {w : World} (hbase : base ≤ w.heap.size)
    (hp : ∀ (a b : Int) (W : World), 0 ≤ a → a < N → 0 ≤ b → b < N → Below base w W → Calls Tryz.prog F #[.int .i64 a, .int .i64 b, .pointer (some ⟨p, 0, none⟩)] W fun e w' => e = .returned (.int .i64 (c a b)) ∧ Below W.heap.size W w')
    (h : w.ownsRow base 3 1 (.slice A l.length cc) l.length (l.map (Value.int .i64))) :
    Calls Tryz.prog 75 #[.slice A l.length cc, .int .i64 0, .int .i64 l.length, .func (.func F) #[] #[.pointer (some ⟨p, 0, none⟩)]] w fun e w' => e = .returned (.tuple #[]) ∧ Below base w w' ∧ w'.ownsRow base 3 1 (.slice A l.length cc) l.length ((sortS c l).map (Value.int .i64)) := by
  have HH := Lib.hid h
  have HP := Lib.hid hp
  have HIN := Lib.hid hin
  clear h hp hin
  go_enter Tryz.func75, Tryz.ntmps75
  go_wp2_with fail
  go_loopw [8] (fun kk wr => ∃ t : Nat, (t = 0 ∨ t < l.length) ∧ kk = .int .i64 ((t : Int) + 1) ∧ Hid (Below base w wr ∧ wr.ownsRow base 3 1 (.slice A l.length cc) l.length ((insI c t l).map (Value.int .i64)))) (fun kk _ => l.length + 1 - (intOf kk).toNat)
  case atStart => exact ⟨0, .inl rfl, rfl, Below.refl _ _, HH.out⟩
  case round =>
    obtain ⟨t, ht, rfl, HS⟩ := hrel
    by_cases htl : t + 1 < l.length
    · have hpm := insI_perm c t l ht
      have hln : (insI c t l).length = l.length := hpm.length_eq
      have HM : Hid (∀ x ∈ insI c t l, 0 ≤ x ∧ x < N) := fun x hx => HIN.out x (hpm.mem_iff.mp hx)
      have HT : Hid (insI c (t + 1) l = insJ c (t + 1) (insI c t l)) := by show _ = _; rw [insI]
      obtain ⟨A', cc', e, hA⟩ := own_form HS.out.2
      cases e
      obtain ⟨g, rfl, hgl, hgb⟩ := hA (by omega)
      have hsz := HS.out.1.size
      generalize insI c t l = l1 at *
      clear hpm HH
      have i1 : (t : Int) + 1 < (l.length : Int) := by omega
      go_wp2_with fail
      go_loopw [9] (fun jj wq => ∃ (j : Nat) (l2 : List Int), j ≤ t + 1 ∧ l2.length = l.length ∧ jj = .int .i64 j ∧ Hid (insJ c j l2 = insJ c (t + 1) l1 ∧ (∀ x ∈ l2, 0 ≤ x ∧ x < N) ∧ Below base w wq ∧ wq.ownsRow base 3 1 (.slice (some ⟨g, 0, none⟩) l.length cc) l.length (l2.map (Value.int .i64)))) (fun jj _ => (intOf jj).toNat)
      case atStart => exact ⟨t + 1, l1, by omega, hln, by push_cast; rfl, rfl, HM.out, HS.out.1, HS.out.2⟩
      case round =>
        clear HS hln HM
        obtain ⟨j, l2, hj, hl2, rfl, HQ⟩ := hrel
        have hgq := own_glt HQ.out.2.2.2
        cases j with
        | zero =>
          have HF : Hid (l2 = insI c (t + 1) l) := by
            show _ = _
            rw [HT.out, ← HQ.out.1, insJ]
          have HB : Hid (Below base w wr ∧ wr.ownsRow base 3 1 (.slice (some ⟨g, 0, none⟩) l.length cc) l.length (l2.map (Value.int .i64))) := ⟨HQ.out.2.2.1, HQ.out.2.2.2⟩
          clear HQ
          rw [show (((0 : Nat) : Nat) : Int) = 0 from rfl]
          go_upto_region 4 with (fail)
          refine Rg.rgL (fun a b => Below a.heap.size a b)
            [(fun vs u => vs 0 = .int .i64 0), (fun vs u => vs 1 = .int .i64 0), (fun vs u => vs 2 = .bool false), (fun vs u => vs 3 = .bool false), (fun vs u => vs 4 = undef), (fun vs u => vs 5 = undef), (fun vs u => vs 6 = undef), (fun vs u => vs 7 = undef), (fun vs u => vs 8 = undef), (fun vs u => vs 9 = undef), (fun vs u => vs 10 = undef), (fun vs u => vs 11 = undef), (fun vs u => vs 12 = undef), (fun vs u => vs 13 = undef)]
            [[], [], [0, 1], [0, 1, 2], [0, 1, 2, 3], [0, 1, 2, 3], [0, 1, 2, 3], [0, 1, 2, 3, 5, 6], [0, 1, 2, 3, 5, 6, 7], [0, 1, 2, 3], [0, 1, 2, 3], [0, 1, 2, 3, 10], [0, 1, 2, 3, 9, 10, 11], [0, 1, 2, 3, 9, 10, 11, 12]] [some 18, some 19, some 20, some 21, some 22, some 23, some 24, some 25, some 26, some 27, some 28, some 29, some 30, some 31, some 32, some 33, some 34] [] (fun _ _ => True) [[], [], [0, 1], [0, 1, 2], [0, 1, 2, 3], [0, 1, 2, 3], [0, 1, 2, 3], [0, 1, 2, 3, 5, 6], [0, 1, 2, 3, 5, 6, 7], [0, 1, 2, 3], [0, 1, 2, 3], [0, 1, 2, 3, 10], [0, 1, 2, 3, 9, 10, 11], [0, 1, 2, 3, 9, 10, 11, 12], [0, 1, 2, 3, 4, 5, 6, 7, 8, 9, 10, 11, 12, 13], [0, 1, 2, 3, 4, 5, 6, 7, 8, 9, 10, 11, 12, 13, 14], [0, 1, 2, 3, 4, 5, 6, 7, 8, 9, 10, 11, 12, 13, 14, 15]]
            (by kernel_rfl) (by decide) (by kernel_rfl) (by kernel_rfl) (by kernel_rfl) (by kernel_rfl) (by kernel_rfl) (fun _ => Below.refl _ _) (fun _ _ _ h k => h.ext k) (fun _ _ h => h.size) ?_ trivial ?_ ?_
          · intro t ht vs w w' h hE
            simp only [List.mem_cons, List.not_mem_nil, or_false] at ht
            rcases ht with rfl | rfl | rfl | rfl | rfl | rfl | rfl | rfl | rfl | rfl | rfl | rfl | rfl | rfl
            · exact h
            · exact h
            · exact h
            · exact h
            · exact h
            · exact h
            · exact h
            · exact h
            · exact h
            · exact h
            · exact h
            · exact h
            · exact h
            · exact h
          ·
            refine Rg.cons 0 1 rfl (Rg.plain rfl ?_) ?_
            · intro vs W n hn hI hG hT hF K hK
              simp only [Rg.putsD, List.getD_cons_zero, List.getD_cons_succ, Act.put, List.setIfInBounds_toArray, List.set_cons_zero, List.set_cons_succ] at hK ⊢
              clear hn
              clear hF hI
              have H := Lib.hid hK
              clear hK hT
              go_simp
              exact H.out _ _ (Below.refl _ _) rfl (fun h => by cases h) trivial
            refine Rg.cons 1 2 rfl (Rg.plain rfl ?_) ?_
            · intro vs W n hn hI hG hT hF K hK
              simp only [Rg.putsD, List.getD_cons_zero, List.getD_cons_succ, Act.put, List.setIfInBounds_toArray, List.set_cons_zero, List.set_cons_succ] at hK ⊢
              clear hn
              clear hF hI
              have H := Lib.hid hK
              clear hK hT
              go_simp
              exact H.out _ _ (Below.refl _ _) rfl (fun h => by cases h) trivial
            refine Rg.cons 2 3 rfl (Rg.plain rfl ?_) ?_
            · intro vs W n hn hI hG hT hF K hK
              simp only [Rg.putsD, List.getD_cons_zero, List.getD_cons_succ, Act.put, List.setIfInBounds_toArray, List.set_cons_zero, List.set_cons_succ] at hK ⊢
              clear hn
              clear hF hI
              have t0 : vs 0 = .int .i64 0 := hT 0 (by decide)
              have t1 : vs 1 = .int .i64 0 := hT 1 (by decide)
              simp only [t0, t1] at hK
              have H := Lib.hid hK
              clear hK hT
              go_simp
              exact H.out _ _ (Below.refl _ _) rfl (fun h => by cases h) trivial
            refine Rg.cons 3 4 rfl (Rg.plain rfl ?_) ?_
            · intro vs W n hn hI hG hT hF K hK
              simp only [Rg.putsD, List.getD_cons_zero, List.getD_cons_succ, Act.put, List.setIfInBounds_toArray, List.set_cons_zero, List.set_cons_succ] at hK ⊢
              clear hn
              clear hF hI
              have t0 : vs 0 = .int .i64 0 := hT 0 (by decide)
              have t1 : vs 1 = .int .i64 0 := hT 1 (by decide)
              have t2 : vs 2 = .bool false := hT 2 (by decide)
              simp only [t0, t1, t2] at hK
              have H := Lib.hid hK
              clear hK hT
              go_simp
              exact H.out _ _ (Below.refl _ _) rfl (fun h => by cases h) trivial
            refine Rg.cons 4 5 rfl (Rg.skipped (fun _ => Below.refl _ _) (fun _ _ => rfl) (by decide) (fun _ _ h => h) ?_) ?_
            · intro vs W hT
              have tg : vs 3 = .bool false := hT 3 (by decide)
              simp only [Rg.putsD, List.getD_cons_zero, List.getD_cons_succ, Act.put, List.setIfInBounds_toArray, List.set_cons_zero, List.set_cons_succ, tg]
              rfl
            refine Rg.cons 5 6 rfl (Rg.skipped (fun _ => Below.refl _ _) (fun _ _ => rfl) (by decide) (fun _ _ h => h) ?_) ?_
            · intro vs W hT
              have tg : vs 3 = .bool false := hT 3 (by decide)
              simp only [Rg.putsD, List.getD_cons_zero, List.getD_cons_succ, Act.put, List.setIfInBounds_toArray, List.set_cons_zero, List.set_cons_succ, tg]
              rfl
            refine Rg.cons 6 7 rfl (Rg.skipped (fun _ => Below.refl _ _) (fun _ _ => rfl) (by decide) (fun _ _ h => h) ?_) ?_
            · intro vs W hT
              have tg : vs 3 = .bool false := hT 3 (by decide)
              simp only [Rg.putsD, List.getD_cons_zero, List.getD_cons_succ, Act.put, List.setIfInBounds_toArray, List.set_cons_zero, List.set_cons_succ, tg]
              rfl
            refine Rg.cons 7 8 rfl (Rg.skipped (fun _ => Below.refl _ _) (fun _ _ => rfl) (by decide) (fun _ _ h => h) ?_) ?_
            · intro vs W hT
              have tg : vs 3 = .bool false := hT 3 (by decide)
              simp only [Rg.putsD, List.getD_cons_zero, List.getD_cons_succ, Act.put, List.setIfInBounds_toArray, List.set_cons_zero, List.set_cons_succ, tg]
              rfl
            refine Rg.cons 8 9 rfl (Rg.skipped (fun _ => Below.refl _ _) (fun _ _ => rfl) (by decide) (fun _ _ h => h) ?_) ?_
            · intro vs W hT
              have tg : vs 3 = .bool false := hT 3 (by decide)
              simp only [Rg.putsD, List.getD_cons_zero, List.getD_cons_succ, Act.put, List.setIfInBounds_toArray, List.set_cons_zero, List.set_cons_succ, tg]
              rfl
            refine Rg.cons 9 10 rfl (Rg.skipped (fun _ => Below.refl _ _) (fun _ _ => rfl) (by decide) (fun _ _ h => h) ?_) ?_
            · intro vs W hT
              have tg : vs 3 = .bool false := hT 3 (by decide)
              simp only [Rg.putsD, List.getD_cons_zero, List.getD_cons_succ, Act.put, List.setIfInBounds_toArray, List.set_cons_zero, List.set_cons_succ, tg]
              rfl
            refine Rg.cons 10 11 rfl (Rg.skipped (fun _ => Below.refl _ _) (fun _ _ => rfl) (by decide) (fun _ _ h => h) ?_) ?_
            · intro vs W hT
              have tg : vs 3 = .bool false := hT 3 (by decide)
              simp only [Rg.putsD, List.getD_cons_zero, List.getD_cons_succ, Act.put, List.setIfInBounds_toArray, List.set_cons_zero, List.set_cons_succ, tg]
              rfl
            refine Rg.cons 11 12 rfl (Rg.skipped (fun _ => Below.refl _ _) (fun _ _ => rfl) (by decide) (fun _ _ h => h) ?_) ?_
            · intro vs W hT
              have tg : vs 3 = .bool false := hT 3 (by decide)
              simp only [Rg.putsD, List.getD_cons_zero, List.getD_cons_succ, Act.put, List.setIfInBounds_toArray, List.set_cons_zero, List.set_cons_succ, tg]
              rfl
            refine Rg.cons 12 13 rfl (Rg.skipped (fun _ => Below.refl _ _) (fun _ _ => rfl) (by decide) (fun _ _ h => h) ?_) ?_
            · intro vs W hT
              have tg : vs 3 = .bool false := hT 3 (by decide)
              simp only [Rg.putsD, List.getD_cons_zero, List.getD_cons_succ, Act.put, List.setIfInBounds_toArray, List.set_cons_zero, List.set_cons_succ, tg]
              rfl
            refine Rg.cons 13 14 rfl (Rg.skipped (fun _ => Below.refl _ _) (fun _ _ => rfl) (by decide) (fun _ _ h => h) ?_) ?_
            · intro vs W hT
              have tg : vs 3 = .bool false := hT 3 (by decide)
              simp only [Rg.putsD, List.getD_cons_zero, List.getD_cons_succ, Act.put, List.setIfInBounds_toArray, List.set_cons_zero, List.set_cons_succ, tg]
              rfl
            exact Rg.nil
          · intro vs W hG hI hT hF
            have t0 : vs 0 = .int .i64 0 := hT 0 (by decide)
            have t1 : vs 1 = .int .i64 0 := hT 1 (by decide)
            have t2 : vs 2 = .bool false := hT 2 (by decide)
            have t3 : vs 3 = .bool false := hT 3 (by decide)
            have t4 : vs 4 = undef := hT 4 (by decide)
            have t5 : vs 5 = undef := hT 5 (by decide)
            have t6 : vs 6 = undef := hT 6 (by decide)
            have t7 : vs 7 = undef := hT 7 (by decide)
            have t8 : vs 8 = undef := hT 8 (by decide)
            have t9 : vs 9 = undef := hT 9 (by decide)
            have t10 : vs 10 = undef := hT 10 (by decide)
            have t11 : vs 11 = undef := hT 11 (by decide)
            have t12 : vs 12 = undef := hT 12 (by decide)
            have t13 : vs 13 = undef := hT 13 (by decide)
            simp only [List.length_cons, List.length_nil, Nat.reduceAdd, List.range, List.range.loop, List.drop_succ_cons, List.drop_zero, Rg.putsD, List.getD_cons_zero, List.getD_cons_succ, Act.put, List.setIfInBounds_toArray, List.set_cons_zero, List.set_cons_succ, t0, t1, t2, t3, t4, t5, t6, t7, t8, t9, t10, t11, t12, t13]
            clear hT t0 t1 t2 t3 t4 t5 t6 t7 t8 t9 t10 t11 t12 t13
            have HB2 : Hid (Below base w W ∧ W.ownsRow base 3 1 (.slice (some ⟨g, 0, none⟩) l.length cc) l.length (l2.map (Value.int .i64))) := ⟨HB.out.1.drew.then_below hG (by have := HB.out.1.size; show base ≤ _; exact Nat.le_trans hbase this), own_below (w := wr.drew) HB.out.2.drew hG⟩
            clear hF hI hG HB
            go_wp2_with fail
            go_roundw
            case rel => exact ⟨t + 1, .inr htl, by go_num, HB2.out.1, by rw [← HF.out]; exact HB2.out.2⟩
            case measure => simp [intOf] <;> omega
        | succ j =>
          have hj1 : j + 1 < l2.length := by omega
          have HST : Hid (insJ c (t + 1) l1 = if c l2[j + 1] l2[j] < 0 then insJ c j ((l2.set (j + 1) l2[j]).set j l2[j + 1]) else l2) := by
            show _ = _
            rw [← HQ.out.1, insJ, getD_at hj1, getD_at (by omega : j < l2.length)]
          have HIX := HQ.out.2.1 l2[j + 1] (List.getElem_mem hj1)
          have HIY := HQ.out.2.1 l2[j] (List.getElem_mem (by omega))
          have HCX : Hid (∀ W : World, W.ownsRow base 3 1 (.slice (some ⟨g, 0, none⟩) l.length cc) l.length (l2.map (Value.int .i64)) → W.cell? ⟨g, j + 1, none⟩ = some (.int .i64 l2[j + 1]) ∧ W.cell? ⟨g, j, none⟩ = some (.int .i64 l2[j])) := fun W hW => ⟨own_cell hW (j := j + 1) hj1 hl2, own_cell hW (j := j) (by omega) hl2⟩
          have HMX : Hid (∀ z ∈ (l2.set (j + 1) l2[j]).set j l2[j + 1], 0 ≤ z ∧ z < N) := fun z hz => by
            rcases List.mem_or_eq_of_mem_set hz with h | h
            · rcases List.mem_or_eq_of_mem_set h with h | h
              · exact HQ.out.2.1 z h
              · rw [h]; exact HIY
            · rw [h]; exact HIX
          have HB : Hid (Below base w wr ∧ wr.ownsRow base 3 1 (.slice (some ⟨g, 0, none⟩) l.length cc) l.length (l2.map (Value.int .i64))) := ⟨HQ.out.2.2.1, HQ.out.2.2.2⟩
          clear HQ
          generalize l2[j + 1] = x at *
          generalize l2[j] = y at *
          rw [show (((j + 1 : Nat) : Nat) : Int) = (j : Int) + 1 from rfl]
          have i2 : (0 : Int) ≤ (j : Int) := by omega
          have i3 : (j : Int) + 1 < (l.length : Int) := by omega
          have i4 : (j : Int) < (l.length : Int) := by omega
          go_upto_region 4 with (fail)
          refine Rg.rgL (fun a b => Below a.heap.size a b)
            [(fun vs u => vs 0 = .int .i64 ((j : Int) + 1)), (fun vs u => vs 1 = .int .i64 0), (fun vs u => vs 2 = .bool true), (fun vs u => vs 3 = .bool true), (fun vs u => vs 4 = .func (.func F) #[] #[.pointer (some ⟨p, 0, none⟩)]), (fun vs u => vs 5 = .slice (some ⟨g, 0, none⟩) l.length cc), (fun vs u => vs 6 = .int .i64 ((j : Int) + 1)), (fun vs u => vs 7 = .pointer (some ⟨g, j + 1, none⟩)), (fun vs u => vs 8 = .int .i64 x), (fun vs u => vs 9 = .slice (some ⟨g, 0, none⟩) l.length cc), (fun vs u => vs 10 = .int .i64 ((j : Int) + 1)), (fun vs u => vs 11 = .int .i64 j), (fun vs u => vs 12 = .pointer (some ⟨g, j, none⟩)), (fun vs u => vs 13 = .int .i64 y)]
            [[], [], [0, 1], [0, 1, 2], [0, 1, 2, 3], [0, 1, 2, 3], [0, 1, 2, 3], [0, 1, 2, 3, 5, 6], [0, 1, 2, 3, 5, 6, 7], [0, 1, 2, 3], [0, 1, 2, 3], [0, 1, 2, 3, 10], [0, 1, 2, 3, 9, 10, 11], [0, 1, 2, 3, 9, 10, 11, 12]] [some 18, some 19, some 20, some 21, some 22, some 23, some 24, some 25, some 26, some 27, some 28, some 29, some 30, some 31, some 32, some 33, some 34] [] (fun _ _ => True) [[], [], [0, 1], [0, 1, 2], [0, 1, 2, 3], [0, 1, 2, 3], [0, 1, 2, 3], [0, 1, 2, 3, 5, 6], [0, 1, 2, 3, 5, 6, 7], [0, 1, 2, 3], [0, 1, 2, 3], [0, 1, 2, 3, 10], [0, 1, 2, 3, 9, 10, 11], [0, 1, 2, 3, 9, 10, 11, 12], [0, 1, 2, 3, 4, 5, 6, 7, 8, 9, 10, 11, 12, 13], [0, 1, 2, 3, 4, 5, 6, 7, 8, 9, 10, 11, 12, 13, 14], [0, 1, 2, 3, 4, 5, 6, 7, 8, 9, 10, 11, 12, 13, 14, 15]]
            (by kernel_rfl) (by decide) (by kernel_rfl) (by kernel_rfl) (by kernel_rfl) (by kernel_rfl) (by kernel_rfl) (fun _ => Below.refl _ _) (fun _ _ _ h k => h.ext k) (fun _ _ h => h.size) ?_ trivial ?_ ?_
          · intro t ht vs w w' h hE
            simp only [List.mem_cons, List.not_mem_nil, or_false] at ht
            rcases ht with rfl | rfl | rfl | rfl | rfl | rfl | rfl | rfl | rfl | rfl | rfl | rfl | rfl | rfl
            · exact h
            · exact h
            · exact h
            · exact h
            · exact h
            · exact h
            · exact h
            · exact h
            · exact h
            · exact h
            · exact h
            · exact h
            · exact h
            · exact h
          ·
            refine Rg.cons 0 1 rfl (Rg.plain rfl ?_) ?_
            · intro vs W n hn hI hG hT hF K hK
              simp only [Rg.putsD, List.getD_cons_zero, List.getD_cons_succ, Act.put, List.setIfInBounds_toArray, List.set_cons_zero, List.set_cons_succ] at hK ⊢
              clear hn
              clear hF hI
              have H := Lib.hid hK
              clear hK hT
              go_simp
              exact H.out _ _ (Below.refl _ _) rfl (fun h => by cases h) trivial
            refine Rg.cons 1 2 rfl (Rg.plain rfl ?_) ?_
            · intro vs W n hn hI hG hT hF K hK
              simp only [Rg.putsD, List.getD_cons_zero, List.getD_cons_succ, Act.put, List.setIfInBounds_toArray, List.set_cons_zero, List.set_cons_succ] at hK ⊢
              clear hn
              clear hF hI
              have H := Lib.hid hK
              clear hK hT
              go_simp
              exact H.out _ _ (Below.refl _ _) rfl (fun h => by cases h) trivial
            refine Rg.cons 2 3 rfl (Rg.plain rfl ?_) ?_
            · intro vs W n hn hI hG hT hF K hK
              simp only [Rg.putsD, List.getD_cons_zero, List.getD_cons_succ, Act.put, List.setIfInBounds_toArray, List.set_cons_zero, List.set_cons_succ] at hK ⊢
              clear hn
              clear hF hI
              have t0 : vs 0 = .int .i64 ((j : Int) + 1) := hT 0 (by decide)
              have t1 : vs 1 = .int .i64 0 := hT 1 (by decide)
              simp only [t0, t1] at hK
              have H := Lib.hid hK
              clear hK hT
              go_simp
              exact H.out _ _ (Below.refl _ _) rfl (fun h => by cases h) trivial
            refine Rg.cons 3 4 rfl (Rg.plain rfl ?_) ?_
            · intro vs W n hn hI hG hT hF K hK
              simp only [Rg.putsD, List.getD_cons_zero, List.getD_cons_succ, Act.put, List.setIfInBounds_toArray, List.set_cons_zero, List.set_cons_succ] at hK ⊢
              clear hn
              clear hF hI
              have t0 : vs 0 = .int .i64 ((j : Int) + 1) := hT 0 (by decide)
              have t1 : vs 1 = .int .i64 0 := hT 1 (by decide)
              have t2 : vs 2 = .bool true := hT 2 (by decide)
              simp only [t0, t1, t2] at hK
              have H := Lib.hid hK
              clear hK hT
              go_simp
              exact H.out _ _ (Below.refl _ _) rfl (fun h => by cases h) trivial
            refine Rg.cons 4 5 rfl (Rg.guarded ?_ ?_) ?_
            · intro vs W hT
              have tg : vs 3 = .bool true := hT 3 (by decide)
              simp only [Rg.putsD, List.getD_cons_zero, List.getD_cons_succ, Act.put, List.setIfInBounds_toArray, List.set_cons_zero, List.set_cons_succ, tg]
              rfl
            · intro vs W n hn hI hG hT hF K hK
              simp only [Rg.putsD, List.getD_cons_zero, List.getD_cons_succ, Act.put, List.setIfInBounds_toArray, List.set_cons_zero, List.set_cons_succ] at hK ⊢
              clear hn
              clear hF hI
              have t0 : vs 0 = .int .i64 ((j : Int) + 1) := hT 0 (by decide)
              have t1 : vs 1 = .int .i64 0 := hT 1 (by decide)
              have t2 : vs 2 = .bool true := hT 2 (by decide)
              have t3 : vs 3 = .bool true := hT 3 (by decide)
              simp only [t0, t1, t2, t3] at hK
              have H := Lib.hid hK
              clear hK hT
              go_simp
              exact H.out _ _ (Below.refl _ _) rfl (fun h => by cases h) trivial
            refine Rg.cons 5 6 rfl (Rg.guarded ?_ ?_) ?_
            · intro vs W hT
              have tg : vs 3 = .bool true := hT 3 (by decide)
              simp only [Rg.putsD, List.getD_cons_zero, List.getD_cons_succ, Act.put, List.setIfInBounds_toArray, List.set_cons_zero, List.set_cons_succ, tg]
              rfl
            · intro vs W n hn hI hG hT hF K hK
              simp only [Rg.putsD, List.getD_cons_zero, List.getD_cons_succ, Act.put, List.setIfInBounds_toArray, List.set_cons_zero, List.set_cons_succ] at hK ⊢
              clear hn
              clear hF hI
              have t0 : vs 0 = .int .i64 ((j : Int) + 1) := hT 0 (by decide)
              have t1 : vs 1 = .int .i64 0 := hT 1 (by decide)
              have t2 : vs 2 = .bool true := hT 2 (by decide)
              have t3 : vs 3 = .bool true := hT 3 (by decide)
              simp only [t0, t1, t2, t3] at hK
              have H := Lib.hid hK
              clear hK hT
              go_simp
              exact H.out _ _ (Below.refl _ _) rfl (fun h => by cases h) trivial
            refine Rg.cons 6 7 rfl (Rg.guarded ?_ ?_) ?_
            · intro vs W hT
              have tg : vs 3 = .bool true := hT 3 (by decide)
              simp only [Rg.putsD, List.getD_cons_zero, List.getD_cons_succ, Act.put, List.setIfInBounds_toArray, List.set_cons_zero, List.set_cons_succ, tg]
              rfl
            · intro vs W n hn hI hG hT hF K hK
              simp only [Rg.putsD, List.getD_cons_zero, List.getD_cons_succ, Act.put, List.setIfInBounds_toArray, List.set_cons_zero, List.set_cons_succ] at hK ⊢
              clear hn
              clear hF hI
              have t0 : vs 0 = .int .i64 ((j : Int) + 1) := hT 0 (by decide)
              have t1 : vs 1 = .int .i64 0 := hT 1 (by decide)
              have t2 : vs 2 = .bool true := hT 2 (by decide)
              have t3 : vs 3 = .bool true := hT 3 (by decide)
              simp only [t0, t1, t2, t3] at hK
              have H := Lib.hid hK
              clear hK hT
              go_simp
              exact H.out _ _ (Below.refl _ _) rfl (fun h => by cases h) trivial
            refine Rg.cons 7 8 rfl (Rg.guarded ?_ ?_) ?_
            · intro vs W hT
              have tg : vs 3 = .bool true := hT 3 (by decide)
              simp only [Rg.putsD, List.getD_cons_zero, List.getD_cons_succ, Act.put, List.setIfInBounds_toArray, List.set_cons_zero, List.set_cons_succ, tg]
              rfl
            · intro vs W n hn hI hG hT hF K hK
              simp only [Rg.putsD, List.getD_cons_zero, List.getD_cons_succ, Act.put, List.setIfInBounds_toArray, List.set_cons_zero, List.set_cons_succ] at hK ⊢
              clear hn
              clear hF hI
              have t0 : vs 0 = .int .i64 ((j : Int) + 1) := hT 0 (by decide)
              have t1 : vs 1 = .int .i64 0 := hT 1 (by decide)
              have t2 : vs 2 = .bool true := hT 2 (by decide)
              have t3 : vs 3 = .bool true := hT 3 (by decide)
              have t5 : vs 5 = .slice (some ⟨g, 0, none⟩) l.length cc := hT 5 (by decide)
              have t6 : vs 6 = .int .i64 ((j : Int) + 1) := hT 6 (by decide)
              simp only [t0, t1, t2, t3, t5, t6] at hK
              have H := Lib.hid hK
              clear hK hT
              go_simp
              exact H.out _ _ (Below.refl _ _) rfl (fun h => by cases h) trivial
            refine Rg.cons 8 9 rfl (Rg.guarded ?_ ?_) ?_
            · intro vs W hT
              have tg : vs 3 = .bool true := hT 3 (by decide)
              simp only [Rg.putsD, List.getD_cons_zero, List.getD_cons_succ, Act.put, List.setIfInBounds_toArray, List.set_cons_zero, List.set_cons_succ, tg]
              rfl
            · intro vs W n hn hI hG hT hF K hK
              simp only [Rg.putsD, List.getD_cons_zero, List.getD_cons_succ, Act.put, List.setIfInBounds_toArray, List.set_cons_zero, List.set_cons_succ] at hK ⊢
              clear hn
              clear hF hI
              have t0 : vs 0 = .int .i64 ((j : Int) + 1) := hT 0 (by decide)
              have t1 : vs 1 = .int .i64 0 := hT 1 (by decide)
              have t2 : vs 2 = .bool true := hT 2 (by decide)
              have t3 : vs 3 = .bool true := hT 3 (by decide)
              have t5 : vs 5 = .slice (some ⟨g, 0, none⟩) l.length cc := hT 5 (by decide)
              have t6 : vs 6 = .int .i64 ((j : Int) + 1) := hT 6 (by decide)
              have t7 : vs 7 = .pointer (some ⟨g, j + 1, none⟩) := hT 7 (by decide)
              have c1 := (HCX.out W (own_below (w := wr.drew) HB.out.2.drew hG)).1
              have l1 : g < W.heap.size := own_glt (own_below (w := wr.drew) HB.out.2.drew hG)
              simp only [t0, t1, t2, t3, t5, t6, t7] at hK
              have H := Lib.hid hK
              clear hK hT
              go_simp
              exact H.out _ _ (Below.refl _ _) rfl (fun h => by cases h) trivial
            refine Rg.cons 9 10 rfl (Rg.guarded ?_ ?_) ?_
            · intro vs W hT
              have tg : vs 3 = .bool true := hT 3 (by decide)
              simp only [Rg.putsD, List.getD_cons_zero, List.getD_cons_succ, Act.put, List.setIfInBounds_toArray, List.set_cons_zero, List.set_cons_succ, tg]
              rfl
            · intro vs W n hn hI hG hT hF K hK
              simp only [Rg.putsD, List.getD_cons_zero, List.getD_cons_succ, Act.put, List.setIfInBounds_toArray, List.set_cons_zero, List.set_cons_succ] at hK ⊢
              clear hn
              clear hF hI
              have t0 : vs 0 = .int .i64 ((j : Int) + 1) := hT 0 (by decide)
              have t1 : vs 1 = .int .i64 0 := hT 1 (by decide)
              have t2 : vs 2 = .bool true := hT 2 (by decide)
              have t3 : vs 3 = .bool true := hT 3 (by decide)
              simp only [t0, t1, t2, t3] at hK
              have H := Lib.hid hK
              clear hK hT
              go_simp
              exact H.out _ _ (Below.refl _ _) rfl (fun h => by cases h) trivial
            refine Rg.cons 10 11 rfl (Rg.guarded ?_ ?_) ?_
            · intro vs W hT
              have tg : vs 3 = .bool true := hT 3 (by decide)
              simp only [Rg.putsD, List.getD_cons_zero, List.getD_cons_succ, Act.put, List.setIfInBounds_toArray, List.set_cons_zero, List.set_cons_succ, tg]
              rfl
            · intro vs W n hn hI hG hT hF K hK
              simp only [Rg.putsD, List.getD_cons_zero, List.getD_cons_succ, Act.put, List.setIfInBounds_toArray, List.set_cons_zero, List.set_cons_succ] at hK ⊢
              clear hn
              clear hF hI
              have t0 : vs 0 = .int .i64 ((j : Int) + 1) := hT 0 (by decide)
              have t1 : vs 1 = .int .i64 0 := hT 1 (by decide)
              have t2 : vs 2 = .bool true := hT 2 (by decide)
              have t3 : vs 3 = .bool true := hT 3 (by decide)
              simp only [t0, t1, t2, t3] at hK
              have H := Lib.hid hK
              clear hK hT
              go_simp
              exact H.out _ _ (Below.refl _ _) rfl (fun h => by cases h) trivial
            refine Rg.cons 11 12 rfl (Rg.guarded ?_ ?_) ?_
            · intro vs W hT
              have tg : vs 3 = .bool true := hT 3 (by decide)
              simp only [Rg.putsD, List.getD_cons_zero, List.getD_cons_succ, Act.put, List.setIfInBounds_toArray, List.set_cons_zero, List.set_cons_succ, tg]
              rfl
            · intro vs W n hn hI hG hT hF K hK
              simp only [Rg.putsD, List.getD_cons_zero, List.getD_cons_succ, Act.put, List.setIfInBounds_toArray, List.set_cons_zero, List.set_cons_succ] at hK ⊢
              clear hn
              clear hF hI
              have t0 : vs 0 = .int .i64 ((j : Int) + 1) := hT 0 (by decide)
              have t1 : vs 1 = .int .i64 0 := hT 1 (by decide)
              have t2 : vs 2 = .bool true := hT 2 (by decide)
              have t3 : vs 3 = .bool true := hT 3 (by decide)
              have t10 : vs 10 = .int .i64 ((j : Int) + 1) := hT 10 (by decide)
              simp only [t0, t1, t2, t3, t10] at hK
              have H := Lib.hid hK
              clear hK hT
              go_simp
              rw [show IntKind.i64.wrap (j : Int) = (j : Int) from IntWalk.i64_in _ (by omega)]
              exact H.out _ _ (Below.refl _ _) rfl (fun h => by cases h) trivial
            refine Rg.cons 12 13 rfl (Rg.guarded ?_ ?_) ?_
            · intro vs W hT
              have tg : vs 3 = .bool true := hT 3 (by decide)
              simp only [Rg.putsD, List.getD_cons_zero, List.getD_cons_succ, Act.put, List.setIfInBounds_toArray, List.set_cons_zero, List.set_cons_succ, tg]
              rfl
            · intro vs W n hn hI hG hT hF K hK
              simp only [Rg.putsD, List.getD_cons_zero, List.getD_cons_succ, Act.put, List.setIfInBounds_toArray, List.set_cons_zero, List.set_cons_succ] at hK ⊢
              clear hn
              clear hF hI
              have t0 : vs 0 = .int .i64 ((j : Int) + 1) := hT 0 (by decide)
              have t1 : vs 1 = .int .i64 0 := hT 1 (by decide)
              have t2 : vs 2 = .bool true := hT 2 (by decide)
              have t3 : vs 3 = .bool true := hT 3 (by decide)
              have t9 : vs 9 = .slice (some ⟨g, 0, none⟩) l.length cc := hT 9 (by decide)
              have t10 : vs 10 = .int .i64 ((j : Int) + 1) := hT 10 (by decide)
              have t11 : vs 11 = .int .i64 j := hT 11 (by decide)
              simp only [t0, t1, t2, t3, t9, t10, t11] at hK
              have H := Lib.hid hK
              clear hK hT
              go_simp
              exact H.out _ _ (Below.refl _ _) rfl (fun h => by cases h) trivial
            refine Rg.cons 13 14 rfl (Rg.guarded ?_ ?_) ?_
            · intro vs W hT
              have tg : vs 3 = .bool true := hT 3 (by decide)
              simp only [Rg.putsD, List.getD_cons_zero, List.getD_cons_succ, Act.put, List.setIfInBounds_toArray, List.set_cons_zero, List.set_cons_succ, tg]
              rfl
            · intro vs W n hn hI hG hT hF K hK
              simp only [Rg.putsD, List.getD_cons_zero, List.getD_cons_succ, Act.put, List.setIfInBounds_toArray, List.set_cons_zero, List.set_cons_succ] at hK ⊢
              clear hn
              clear hF hI
              have t0 : vs 0 = .int .i64 ((j : Int) + 1) := hT 0 (by decide)
              have t1 : vs 1 = .int .i64 0 := hT 1 (by decide)
              have t2 : vs 2 = .bool true := hT 2 (by decide)
              have t3 : vs 3 = .bool true := hT 3 (by decide)
              have t9 : vs 9 = .slice (some ⟨g, 0, none⟩) l.length cc := hT 9 (by decide)
              have t10 : vs 10 = .int .i64 ((j : Int) + 1) := hT 10 (by decide)
              have t11 : vs 11 = .int .i64 j := hT 11 (by decide)
              have t12 : vs 12 = .pointer (some ⟨g, j, none⟩) := hT 12 (by decide)
              have c1 := (HCX.out W (own_below (w := wr.drew) HB.out.2.drew hG)).2
              have l1 : g < W.heap.size := own_glt (own_below (w := wr.drew) HB.out.2.drew hG)
              simp only [t0, t1, t2, t3, t9, t10, t11, t12] at hK
              have H := Lib.hid hK
              clear hK hT
              go_simp
              exact H.out _ _ (Below.refl _ _) rfl (fun h => by cases h) trivial
            exact Rg.nil
          · intro vs W hG hI hT hF
            have t0 : vs 0 = .int .i64 ((j : Int) + 1) := hT 0 (by decide)
            have t1 : vs 1 = .int .i64 0 := hT 1 (by decide)
            have t2 : vs 2 = .bool true := hT 2 (by decide)
            have t3 : vs 3 = .bool true := hT 3 (by decide)
            have t4 : vs 4 = .func (.func F) #[] #[.pointer (some ⟨p, 0, none⟩)] := hT 4 (by decide)
            have t5 : vs 5 = .slice (some ⟨g, 0, none⟩) l.length cc := hT 5 (by decide)
            have t6 : vs 6 = .int .i64 ((j : Int) + 1) := hT 6 (by decide)
            have t7 : vs 7 = .pointer (some ⟨g, j + 1, none⟩) := hT 7 (by decide)
            have t8 : vs 8 = .int .i64 x := hT 8 (by decide)
            have t9 : vs 9 = .slice (some ⟨g, 0, none⟩) l.length cc := hT 9 (by decide)
            have t10 : vs 10 = .int .i64 ((j : Int) + 1) := hT 10 (by decide)
            have t11 : vs 11 = .int .i64 j := hT 11 (by decide)
            have t12 : vs 12 = .pointer (some ⟨g, j, none⟩) := hT 12 (by decide)
            have t13 : vs 13 = .int .i64 y := hT 13 (by decide)
            simp only [List.length_cons, List.length_nil, Nat.reduceAdd, List.range, List.range.loop, List.drop_succ_cons, List.drop_zero, Rg.putsD, List.getD_cons_zero, List.getD_cons_succ, Act.put, List.setIfInBounds_toArray, List.set_cons_zero, List.set_cons_succ, t0, t1, t2, t3, t4, t5, t6, t7, t8, t9, t10, t11, t12, t13]
            clear hT t0 t1 t2 t3 t4 t5 t6 t7 t8 t9 t10 t11 t12 t13
            have HB2 : Hid (Below base w W ∧ W.ownsRow base 3 1 (.slice (some ⟨g, 0, none⟩) l.length cc) l.length (l2.map (Value.int .i64))) := ⟨HB.out.1.drew.then_below hG (by have := HB.out.1.size; show base ≤ _; exact Nat.le_trans hbase this), own_below (w := wr.drew) HB.out.2.drew hG⟩
            have CP := Lib.hid (HP.out x y W HIX.1 HIX.2 HIY.1 HIY.2 HB2.out.1)
            clear hF hI hG HB
            go_wp2_with fail
            refine CP.out.mono ?_
            rintro e w7 ⟨rfl, b7⟩
            have HB7 : Hid (Below base w w7 ∧ w7.ownsRow base 3 1 (.slice (some ⟨g, 0, none⟩) l.length cc) l.length (l2.map (Value.int .i64))) := ⟨HB2.out.1.then_below b7 (Nat.le_trans hbase HB2.out.1.size), own_below HB2.out.2 b7⟩
            clear b7 CP HB2
            generalize c x y = cxy at *
            by_cases hc : cxy < 0
            · have HF : Hid (insJ c j ((l2.set (j + 1) y).set j x) = insJ c (t + 1) l1) := (HST.out.trans (if_pos hc)).symm
              clear HST
              go_upto_region 6 with (fail)
              have hwp : IntKind.i64.wrap (j : Int) = (j : Int) := IntWalk.i64_in _ (by omega)
              obtain ⟨cj, cp⟩ := HCX.out w7 HB7.out.2
              have fj := own_frozen HB7.out.2 (j + 1)
              have fp := own_frozen HB7.out.2 j
              have gl7 := own_glt HB7.out.2
              have e0 : ((j : Int) + 1).toNat = j + 1 := by omega
              have p0 : (0 : Int) ≤ (j : Int) + 1 := by omega
              obtain ⟨j1, hj1'⟩ : ∃ j1, j1 = j + 1 := ⟨_, rfl⟩
              have HB10 : Hid (Below base w ((w7.setCell ⟨g, j1, none⟩ (.int .i64 y)).setCell ⟨g, j, none⟩ (.int .i64 x)) ∧ ((w7.setCell ⟨g, j1, none⟩ (.int .i64 y)).setCell ⟨g, j, none⟩ (.int .i64 x)).ownsRow base 3 1 (.slice (some ⟨g, 0, none⟩) l.length cc) l.length (((l2.set (j + 1) y).set j x).map (Value.int .i64))) := by
                refine ⟨(HB7.out.1.setCell hgb _).setCell hgb _, ?_⟩
                rw [List.map_set, List.map_set, hj1']
                exact own_set (own_set HB7.out.2 (j + 1) (.int .i64 y)) j (.int .i64 x)
              rw [← hj1'] at cj fj e0
              clear hj1' HCX HB7 HIX HIY
              go_big_region
              all_goals go_wp2_with fail
              go_roundw
              case rel => exact ⟨j, (l2.set (j + 1) y).set j x, by omega, by rw [List.length_set, List.length_set]; exact hl2, by go_num, HF.out, HMX.out, HB10.out.1.drawN 1, own_below HB10.out.2 ((Below.refl _ _).drawN 1)⟩
              case measure => simp [intOf] <;> omega
            · have HF : Hid (l2 = insI c (t + 1) l) := (HT.out.trans (HST.out.trans (if_neg hc))).symm
              clear HST
              go_wp2_with fail
              go_roundw
              case rel => exact ⟨t + 1, .inr htl, by go_num, HB7.out.1, by rw [← HF.out]; exact HB7.out.2⟩
              case measure => simp [intOf] <;> omega
    · have HF : Hid (insI c t l = sortS c l) := by
        show _ = _
        unfold sortS
        rw [show l.length - 1 = t by omega]
      have i1 : ¬ (t : Int) + 1 < (l.length : Int) := by omega
      go_wp2_with fail
      refine bodyPost_end (v := .tuple #[]) (by unfold results; simp only [Tryz.results75]; go_simp) rfl ⟨rfl, HS.out.1, by rw [← HF.out]; exact HS.out.2⟩
end Go.Proofs.YtopoemfnnnfgdaaGreatDoor
