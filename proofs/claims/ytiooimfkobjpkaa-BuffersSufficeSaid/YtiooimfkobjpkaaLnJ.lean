/-
  The reference's search for buffers: the recursion.
-/
import Derived.Test.YtiooimfkobjpkaaLnI
namespace Go.Proofs.Ytiooimfkobjpkaa
open Go.RowKit
set_option linter.unusedSimpArgs false
set_option linter.unusedVariables false

theorem rep_snoc (l : List Int) (h : l = List.replicate l.length 0) : l ++ [0] = List.replicate (l ++ [(0 : Int)]).length 0 := by
  rw [List.length_append]
  conv => lhs; rw [h]
  rw [show [(0 : Int)].length = 1 from rfl, List.replicate_succ']

set_option maxRecDepth 100000 in
set_option maxHeartbeats 16000000 in
theorem try_any (cs : List Int) (m n most : Nat) (hcs : CsOk cs) (h1 : 1 ≤ cs.length) (h6 : cs.length ≤ 6) (hn : n + 1 = cs.length) (hm1 : 1 ≤ m) (hm : m ≤ 2000) (hmost : most ≤ 3) (v1 : Value) (g1 g2 g3 g4 g5 g6 hc hbd : Nat) :
    ∀ (d : Nat) (l : List Int) (A : Option Addr) (c : Nat) (B : List Int) (W0 : World), l.length + d = n → (∀ x ∈ l, 0 ≤ x ∧ x ≤ 3) → (l.length = 0 → A = none ∧ c = 0) → EE cs m n most (lv cs (List.replicate n 0) (m - 1) (cs.length - 1)) v1 g1 g2 g3 g4 g5 g6 hc hbd W0 → ReadsX g2 (.slice A l.length c) l W0 → BB g2 B W0 → Stand n most B l →
    Calls Try.prog 68 #[.slice A l.length c, .pointer (some ⟨g1, 0, none⟩), .pointer (some ⟨g2, 0, none⟩), .pointer (some ⟨g3, 0, none⟩), .pointer (some ⟨g4, 0, none⟩), .pointer (some ⟨g5, 0, none⟩), .pointer (some ⟨g6, 0, none⟩)] W0
      fun e w' => e = .returned (.tuple #[]) ∧ Kept g2 W0 w' ∧ BB g2 (List.replicate n 0) w' := by
  intro d
  induction d with
  | zero =>
    intro l A c B W0 hln hx hA hE hR hB hS
    have hl : l.length = n := by omega
    have hx2 : ∀ x ∈ l, 0 ≤ x ∧ x ≤ 2000 := fun x h => by have := hx x h; omega
    have HE := Lib.hid hE
    have HR := Lib.hid hR
    have HB := Lib.hid hB
    have hbd' := hS.bd hmost
    have hBl := hS.len
    have HLT := Lib.hid (fun h => hS.lt hl hx2 h)
    have HEQ := Lib.hid (fun h => hS.eq hl hx2 h)
    have HGE := Lib.hid (fun h => hS.ge hl h)
    have hs0 := sumI_nonneg l fun x h => (hx2 x h).1
    have hs1 := sumI_le l fun x h => (hx2 x h).2
    have ht0 := sumI_nonneg B fun x h => (hbd' x h).1
    have ht1 := sumI_le B fun x h => (hbd' x h).2
    have C1 := Lib.hid (fun (W : World) (h : Reads encN (.slice A l.length c) l W) => sumN_any l (by omega) hx2 h)
    have C2 := Lib.hid (fun (Ab : Option Addr) (cb : Nat) (W : World) (h : Reads encN (.slice Ab B.length cb) B W) => sumN_any B (by omega) hbd' h)
    have hb1 : (l.length : Int) = (cs.length : Int) - 1 := by omega
    have CE := Lib.hid (fun (W : World) (r1 : Reads encN v1 cs W) (r2 : Reads encN (.slice A l.length c) l W) kc kb => @end_any cs l m hcs h1 h6 hb1 hx2 hm1 hm hc hbd v1 _ W r1 r2 kc kb)
    rw [lv_same l (List.replicate n 0) hcs (by intro h; rw [h] at h1; simp at h1) (m - 1)] at CE
    have CM := Lib.hid (fun (Ab : Option Addr) (cb : Nat) (W : World) (e : l = B) (h1 : Reads encN (.slice A l.length c) l W) (h2 : Reads encN (.slice Ab B.length cb) B W) => @cmpEq_any l (by omega) (.slice A l.length c) (.slice Ab B.length cb) W h1 (by rw [e]; exact h2))
    have CC := Lib.hid (fun (W : World) (h : Reads encN (.slice A l.length c) l W) (hpos : l.length ≠ 0) => show Calls Try.prog 52 #[.slice A l.length c] W fun e w' => ∃ v', e = .returned v' ∧ w'.ownsRow W.heap.size 3 1 v' l.length (l.map (Value.int .i64)) ∧ Below W.heap.size W w' by
      obtain ⟨A', c', e, h⟩ := h
      cases e
      rcases h with rfl | ⟨g, rfl, h⟩
      · exact absurd rfl hpos
      · refine (Try.slices_Clone_int g 0 l.length c l W (Nat.le_refl _) (by omega) (fun j hj => ?_)).mono ?_
        · rw [Nat.zero_add, row_n h hj, List.getD_eq_getElem?_getD, List.getElem?_eq_getElem hj]
          rfl
        · rintro e w' ⟨v', rfl, h1, _, h2⟩
          rw [List.take_of_length_le (Nat.le_refl _)] at h1
          exact ⟨_, rfl, h1, h2⟩)
    have HST : Hid (sumI l < sumI B → l.length ≠ 0) := by
      intro h h0
      have e1 : l = [] := List.length_eq_zero_iff.mp h0
      have e2 : B = [] := List.length_eq_zero_iff.mp (by omega)
      rw [e1, e2] at h
      exact absurd h (by omega)
    generalize lv cs (List.replicate n 0) (m - 1) (cs.length - 1) = G at *
    have HS1 : Hid (sumI l ≤ 12000 ∧ sumI B ≤ 12000) := ⟨by omega, by omega⟩
    clear hcs h1 hE hR hB hS hbd' hs1 ht1 hb1 hx2 hx
    obtain ⟨Ab, cb, kbst, rbst⟩ := HB.out
    have HKB := Lib.hid (And.intro kbst rbst)
    clear kbst rbst HB
    generalize hSS : sumI l = S at *
    generalize hTT : sumI B = T at *
    clear hSS hTT
    obtain ⟨q1, _, l1⟩ := blk1 HE.out.k1
    have HBL := Lib.hid (And.intro hBl hn)
    have hl5 : l.length ≤ 5 := by omega
    have hB5 : B.length ≤ 5 := by omega
    clear hBl hn hA hln h6
    subst hl
    have hln' : ((l.length : Int) == (l.length : Int)) = true := by simp
    go_enter Try.func68, Try.ntmps68
    go_upto_region 1 with (fail)
    clear q1 l1
    refine Rg.rgL (fun a b => Below a.heap.size a b)
      [(fun vs u => vs 0 = .slice A l.length c), (fun vs u => vs 1 = .int .i64 S), (fun vs u => vs 2 = .slice Ab B.length cb)]
      [[], [0], []] [some 15, some 16, some 17, some 18, some 8, some 9] [] (fun _ _ => True) [[], [0], [], [0, 1, 2], [0, 1, 2, 3], [0, 1, 2, 3, 4]]
      (by kernel_rfl) (by decide) (by kernel_rfl) (by kernel_rfl) (by kernel_rfl) (by kernel_rfl) (by kernel_rfl) (fun _ => Below.refl _ _) (fun _ _ _ h k => h.ext k) (fun _ _ h => h.size) ?_ trivial ?_ ?_
    · intro t ht vs w w' h hE
      simp only [List.mem_cons, List.not_mem_nil, or_false] at ht
      rcases ht with rfl | rfl | rfl
      · exact h
      · exact h
      · exact h
    ·
      refine Rg.cons 0 1 rfl (Rg.plain rfl ?_) ?_
      · intro vs W n hn hI hG hT hF K hK
        simp only [Rg.putsD, List.getD_cons_zero, List.getD_cons_succ, Act.put, List.setIfInBounds_toArray, List.set_cons_zero, List.set_cons_succ] at hK ⊢
        clear hn
        clear hF hI
        have H := Lib.hid hK
        clear hK hT
        go_simp
        exact H.out _ _ (Below.refl _ _) rfl (fun h => by cases h) trivial
      refine Rg.cons 1 2 rfl (Rg.plain rfl ?_) ?_
      · intro vs W n hn hI hG hT hF K hK
        simp only [Rg.putsD, List.getD_cons_zero, List.getD_cons_succ, Act.put, List.setIfInBounds_toArray, List.set_cons_zero, List.set_cons_succ] at hK ⊢
        clear hn
        clear hF hI
        have t0 : vs 0 = .slice A l.length c := hT 0 (by decide)
        have HG := Lib.hid hG
        clear hG
        simp only [t0] at hK
        have H := Lib.hid hK
        clear hK hT
        go_simp
        refine (C1.out _ (HR.out.below ((Below.refl _ _).drew.then_below HG.out (Nat.le_refl _))).reads).mono ?_
        rintro e wa ⟨rfl, ba⟩
        exact H.out _ _ ba rfl (fun h => by cases h) trivial
      refine Rg.cons 2 3 rfl (Rg.plain rfl ?_) ?_
      · intro vs W n hn hI hG hT hF K hK
        simp only [Rg.putsD, List.getD_cons_zero, List.getD_cons_succ, Act.put, List.setIfInBounds_toArray, List.set_cons_zero, List.set_cons_succ] at hK ⊢
        clear hn
        clear hF hI
        obtain ⟨d0, _, ld0⟩ := blk1 (blk_below hG HKB.out.1)
        have H := Lib.hid hK
        clear hK hT
        go_simp
        exact H.out _ _ (Below.refl _ _) rfl (fun h => by cases h) trivial
      exact Rg.nil
    · intro vs W hG hI hT hF
      have t0 : vs 0 = .slice A l.length c := hT 0 (by decide)
      have t1 : vs 1 = .int .i64 S := hT 1 (by decide)
      have t2 : vs 2 = .slice Ab B.length cb := hT 2 (by decide)
      simp only [List.length_cons, List.length_nil, Nat.reduceAdd, List.range, List.range.loop, List.drop_succ_cons, List.drop_zero, Rg.putsD, List.getD_cons_zero, List.getD_cons_succ, Act.put, List.setIfInBounds_toArray, List.set_cons_zero, List.set_cons_succ, t0, t1, t2]
      clear hT t0 t1 t2
      have HG1 : Hid (Below W0.heap.size W0 W) := (Below.refl _ _).drew.then_below hG (Nat.le_refl _)
      have HE1 := Lib.hid (HE.out.below HG1.out)
      have HR1 := Lib.hid (HR.out.below HG1.out)
      have HK1 := Lib.hid (And.intro (blk_below HG1.out HKB.out.1) (HKB.out.2.below HG1.out))
      have hgl2 := lt_of_blk HK1.out.1
      clear hG hI hF HE HR HKB C1
      go_wp2_with fail
      refine (C2.out Ab cb _ HK1.out.2.reads).mono ?_
      rintro e w2 ⟨rfl, b2⟩
      have HG2 : Hid (Below W0.heap.size W0 w2) := HG1.out.then_below b2 HG1.out.size
      have HE2 := Lib.hid (HE1.out.below b2)
      have HR2 := Lib.hid (HR1.out.below b2)
      have HK2 := Lib.hid (And.intro (blk_below b2 HK1.out.1) (HK1.out.2.below b2))
      clear b2 HG1 HE1 HR1 HK1 C2 hgl2
      go_upto_region 2 with (fail)
      by_cases hlt : S < T
      · have HLTD := Lib.hid hlt
        refine Rg.rgL (fun a b => Below a.heap.size a b)
          [(fun vs u => vs 0 = .func (.func 66) #[] #[.pointer (some ⟨hc, 0, none⟩), .pointer (some ⟨hbd, 0, none⟩)]), (fun vs u => vs 1 = .slice A l.length c), (fun vs u => vs 2 = .int .i64 G), (fun vs u => vs 3 = .int .i64 G), (fun vs u => vs 4 = .bool true), (fun vs u => vs 5 = .bool true), (fun vs u => vs 6 = .int .i64 S), (fun vs u => vs 7 = .int .i64 T), (fun vs u => vs 8 = .bool true), (fun vs u => vs 9 = .bool true), (fun vs u => vs 10 = undef), (fun vs u => vs 11 = undef), (fun vs u => vs 12 = undef), (fun vs u => vs 13 = undef), (fun vs u => vs 14 = undef), (fun vs u => vs 15 = undef)]
          [[], [], [0, 1], [], [0, 1, 2, 3], [0, 1, 2, 3, 4], [0, 1, 2, 3, 4, 5], [0, 1, 2, 3, 4, 5], [0, 1, 2, 3, 4, 5, 6, 7], [0, 1, 2, 3, 4, 5, 6, 7, 8], [0, 1, 2, 3, 4, 5, 6, 7, 8, 9], [0, 1, 2, 3, 4, 5, 6, 7, 8, 9], [0, 1, 2, 3, 4, 5, 6, 7, 8, 9, 10, 11], [0, 1, 2, 3, 4, 5, 6, 7, 8, 9, 10, 11, 12], [0, 1, 2, 3, 4, 5, 6, 7, 8, 9, 10, 11, 12, 13], [0, 1, 2, 3, 4, 5, 6, 7, 8, 9, 10, 11, 12, 13]] [some 19, some 20, some 21, some 22, some 23, some 24, some 25, some 26, some 27, some 28, some 29, some 30, some 31, some 32, some 33, some 34, some 35, some 36, some 37, some 38, some 39] [] (fun _ _ => True) [[], [], [0, 1], [], [0, 1, 2, 3], [0, 1, 2, 3, 4], [0, 1, 2, 3, 4, 5], [0, 1, 2, 3, 4, 5], [0, 1, 2, 3, 4, 5, 6, 7], [0, 1, 2, 3, 4, 5, 6, 7, 8], [0, 1, 2, 3, 4, 5, 6, 7, 8, 9], [0, 1, 2, 3, 4, 5, 6, 7, 8, 9], [0, 1, 2, 3, 4, 5, 6, 7, 8, 9, 10, 11], [0, 1, 2, 3, 4, 5, 6, 7, 8, 9, 10, 11, 12], [0, 1, 2, 3, 4, 5, 6, 7, 8, 9, 10, 11, 12, 13], [0, 1, 2, 3, 4, 5, 6, 7, 8, 9, 10, 11, 12, 13], [0, 1, 2, 3, 4, 5, 6, 7, 8, 9, 10, 11, 12, 13, 14, 15], [0, 1, 2, 3, 4, 5, 6, 7, 8, 9, 10, 11, 12, 13, 14, 15, 16], [0, 1, 2, 3, 4, 5, 6, 7, 8, 9, 10, 11, 12, 13, 14, 15, 16, 17], [0, 1, 2, 3, 4, 5, 6, 7, 8, 9, 10, 11, 12, 13, 14, 15, 16, 17, 18], [0, 1, 2, 3, 4, 5, 6, 7, 8, 9, 10, 11, 12, 13, 14, 15, 16, 17, 18, 19]]
          (by kernel_rfl) (by decide) (by kernel_rfl) (by kernel_rfl) (by kernel_rfl) (by kernel_rfl) (by kernel_rfl) (fun _ => Below.refl _ _) (fun _ _ _ h k => h.ext k) (fun _ _ h => h.size) ?_ trivial ?_ ?_
        · intro t ht vs w w' h hE
          simp only [List.mem_cons, List.not_mem_nil, or_false] at ht
          rcases ht with rfl | rfl | rfl | rfl | rfl | rfl | rfl | rfl | rfl | rfl | rfl | rfl | rfl | rfl | rfl | rfl
          · exact h
          · exact h
          · exact h
          · exact h
          · exact h
          · exact h
          · exact h
          · exact h
          · exact h
          · exact h
          · exact h
          · exact h
          · exact h
          · exact h
          · exact h
          · exact h
        ·
          refine Rg.cons 0 1 rfl (Rg.plain rfl ?_) ?_
          · intro vs W n hn hI hG hT hF K hK
            simp only [Rg.putsD, List.getD_cons_zero, List.getD_cons_succ, Act.put, List.setIfInBounds_toArray, List.set_cons_zero, List.set_cons_succ] at hK ⊢
            clear hn
            clear hF hI
            obtain ⟨d0, _, ld0⟩ := blk1 (blk_below hG HE2.out.k3)
            simp only [endF] at d0
            have H := Lib.hid hK
            clear hK hT
            go_simp
            exact H.out _ _ (Below.refl _ _) rfl (fun h => by cases h) trivial
          refine Rg.cons 1 2 rfl (Rg.plain rfl ?_) ?_
          · intro vs W n hn hI hG hT hF K hK
            simp only [Rg.putsD, List.getD_cons_zero, List.getD_cons_succ, Act.put, List.setIfInBounds_toArray, List.set_cons_zero, List.set_cons_succ] at hK ⊢
            clear hn
            clear hF hI
            have H := Lib.hid hK
            clear hK hT
            go_simp
            exact H.out _ _ (Below.refl _ _) rfl (fun h => by cases h) trivial
          refine Rg.cons 2 3 rfl (Rg.plain rfl ?_) ?_
          · intro vs W n hn hI hG hT hF K hK
            simp only [Rg.putsD, List.getD_cons_zero, List.getD_cons_succ, Act.put, List.setIfInBounds_toArray, List.set_cons_zero, List.set_cons_succ] at hK ⊢
            clear hn
            clear hF hI
            have t0 : vs 0 = .func (.func 66) #[] #[.pointer (some ⟨hc, 0, none⟩), .pointer (some ⟨hbd, 0, none⟩)] := hT 0 (by decide)
            have t1 : vs 1 = .slice A l.length c := hT 1 (by decide)
            have HG := Lib.hid hG
            clear hG
            simp only [t0, t1] at hK
            have H := Lib.hid hK
            clear hK hT
            go_simp
            have HEW := HE2.out.below ((Below.refl _ _).drew.then_below HG.out (Nat.le_refl _))
            refine (CE.out _ HEW.rd.reads (HR2.out.below ((Below.refl _ _).drew.then_below HG.out (Nat.le_refl _))).reads HEW.kc HEW.kb).mono ?_
            rintro e wa ⟨rfl, ba⟩
            exact H.out _ _ ba rfl (fun h => by cases h) trivial
          refine Rg.cons 3 4 rfl (Rg.plain rfl ?_) ?_
          · intro vs W n hn hI hG hT hF K hK
            simp only [Rg.putsD, List.getD_cons_zero, List.getD_cons_succ, Act.put, List.setIfInBounds_toArray, List.set_cons_zero, List.set_cons_succ] at hK ⊢
            clear hn
            clear hF hI
            obtain ⟨d0, _, ld0⟩ := blk1 (blk_below hG HE2.out.k4)
            have H := Lib.hid hK
            clear hK hT
            go_simp
            exact H.out _ _ (Below.refl _ _) rfl (fun h => by cases h) trivial
          refine Rg.cons 4 5 rfl (Rg.plain rfl ?_) ?_
          · intro vs W n hn hI hG hT hF K hK
            simp only [Rg.putsD, List.getD_cons_zero, List.getD_cons_succ, Act.put, List.setIfInBounds_toArray, List.set_cons_zero, List.set_cons_succ] at hK ⊢
            clear hn
            clear hF hI
            have t0 : vs 0 = .func (.func 66) #[] #[.pointer (some ⟨hc, 0, none⟩), .pointer (some ⟨hbd, 0, none⟩)] := hT 0 (by decide)
            have t1 : vs 1 = .slice A l.length c := hT 1 (by decide)
            have t2 : vs 2 = .int .i64 G := hT 2 (by decide)
            have t3 : vs 3 = .int .i64 G := hT 3 (by decide)
            simp only [t0, t1, t2, t3] at hK
            have H := Lib.hid hK
            clear hK hT
            go_simp
            exact H.out _ _ (Below.refl _ _) rfl (fun h => by cases h) trivial
          refine Rg.cons 5 6 rfl (Rg.plain rfl ?_) ?_
          · intro vs W n hn hI hG hT hF K hK
            simp only [Rg.putsD, List.getD_cons_zero, List.getD_cons_succ, Act.put, List.setIfInBounds_toArray, List.set_cons_zero, List.set_cons_succ] at hK ⊢
            clear hn
            clear hF hI
            have t0 : vs 0 = .func (.func 66) #[] #[.pointer (some ⟨hc, 0, none⟩), .pointer (some ⟨hbd, 0, none⟩)] := hT 0 (by decide)
            have t1 : vs 1 = .slice A l.length c := hT 1 (by decide)
            have t2 : vs 2 = .int .i64 G := hT 2 (by decide)
            have t3 : vs 3 = .int .i64 G := hT 3 (by decide)
            have t4 : vs 4 = .bool true := hT 4 (by decide)
            simp only [t0, t1, t2, t3, t4] at hK
            have H := Lib.hid hK
            clear hK hT
            go_simp
            exact H.out _ _ (Below.refl _ _) rfl (fun h => by cases h) trivial
          refine Rg.cons 6 7 rfl (Rg.guarded ?_ ?_) ?_
          · intro vs W hT
            have tg : vs 5 = .bool true := hT 5 (by decide)
            simp only [Rg.putsD, List.getD_cons_zero, List.getD_cons_succ, Act.put, List.setIfInBounds_toArray, List.set_cons_zero, List.set_cons_succ, tg]
            rfl
          · intro vs W n hn hI hG hT hF K hK
            simp only [Rg.putsD, List.getD_cons_zero, List.getD_cons_succ, Act.put, List.setIfInBounds_toArray, List.set_cons_zero, List.set_cons_succ] at hK ⊢
            clear hn
            clear hF hI
            have t0 : vs 0 = .func (.func 66) #[] #[.pointer (some ⟨hc, 0, none⟩), .pointer (some ⟨hbd, 0, none⟩)] := hT 0 (by decide)
            have t1 : vs 1 = .slice A l.length c := hT 1 (by decide)
            have t2 : vs 2 = .int .i64 G := hT 2 (by decide)
            have t3 : vs 3 = .int .i64 G := hT 3 (by decide)
            have t4 : vs 4 = .bool true := hT 4 (by decide)
            have t5 : vs 5 = .bool true := hT 5 (by decide)
            simp only [t0, t1, t2, t3, t4, t5] at hK
            have H := Lib.hid hK
            clear hK hT
            go_simp
            exact H.out _ _ (Below.refl _ _) rfl (fun h => by cases h) trivial
          refine Rg.cons 7 8 rfl (Rg.guarded ?_ ?_) ?_
          · intro vs W hT
            have tg : vs 5 = .bool true := hT 5 (by decide)
            simp only [Rg.putsD, List.getD_cons_zero, List.getD_cons_succ, Act.put, List.setIfInBounds_toArray, List.set_cons_zero, List.set_cons_succ, tg]
            rfl
          · intro vs W n hn hI hG hT hF K hK
            simp only [Rg.putsD, List.getD_cons_zero, List.getD_cons_succ, Act.put, List.setIfInBounds_toArray, List.set_cons_zero, List.set_cons_succ] at hK ⊢
            clear hn
            clear hF hI
            have t0 : vs 0 = .func (.func 66) #[] #[.pointer (some ⟨hc, 0, none⟩), .pointer (some ⟨hbd, 0, none⟩)] := hT 0 (by decide)
            have t1 : vs 1 = .slice A l.length c := hT 1 (by decide)
            have t2 : vs 2 = .int .i64 G := hT 2 (by decide)
            have t3 : vs 3 = .int .i64 G := hT 3 (by decide)
            have t4 : vs 4 = .bool true := hT 4 (by decide)
            have t5 : vs 5 = .bool true := hT 5 (by decide)
            simp only [t0, t1, t2, t3, t4, t5] at hK
            have H := Lib.hid hK
            clear hK hT
            go_simp
            exact H.out _ _ (Below.refl _ _) rfl (fun h => by cases h) trivial
          refine Rg.cons 8 9 rfl (Rg.guarded ?_ ?_) ?_
          · intro vs W hT
            have tg : vs 5 = .bool true := hT 5 (by decide)
            simp only [Rg.putsD, List.getD_cons_zero, List.getD_cons_succ, Act.put, List.setIfInBounds_toArray, List.set_cons_zero, List.set_cons_succ, tg]
            rfl
          · intro vs W n hn hI hG hT hF K hK
            simp only [Rg.putsD, List.getD_cons_zero, List.getD_cons_succ, Act.put, List.setIfInBounds_toArray, List.set_cons_zero, List.set_cons_succ] at hK ⊢
            clear hn
            clear hF hI
            have t0 : vs 0 = .func (.func 66) #[] #[.pointer (some ⟨hc, 0, none⟩), .pointer (some ⟨hbd, 0, none⟩)] := hT 0 (by decide)
            have t1 : vs 1 = .slice A l.length c := hT 1 (by decide)
            have t2 : vs 2 = .int .i64 G := hT 2 (by decide)
            have t3 : vs 3 = .int .i64 G := hT 3 (by decide)
            have t4 : vs 4 = .bool true := hT 4 (by decide)
            have t5 : vs 5 = .bool true := hT 5 (by decide)
            have t6 : vs 6 = .int .i64 S := hT 6 (by decide)
            have t7 : vs 7 = .int .i64 T := hT 7 (by decide)
            simp only [t0, t1, t2, t3, t4, t5, t6, t7] at hK
            have H := Lib.hid hK
            clear hK hT
            go_simp
            exact H.out _ _ (Below.refl _ _) rfl (fun h => by cases h) trivial
          refine Rg.cons 9 10 rfl (Rg.guarded ?_ ?_) ?_
          · intro vs W hT
            have tg : vs 5 = .bool true := hT 5 (by decide)
            simp only [Rg.putsD, List.getD_cons_zero, List.getD_cons_succ, Act.put, List.setIfInBounds_toArray, List.set_cons_zero, List.set_cons_succ, tg]
            rfl
          · intro vs W n hn hI hG hT hF K hK
            simp only [Rg.putsD, List.getD_cons_zero, List.getD_cons_succ, Act.put, List.setIfInBounds_toArray, List.set_cons_zero, List.set_cons_succ] at hK ⊢
            clear hn
            clear hF hI
            have t0 : vs 0 = .func (.func 66) #[] #[.pointer (some ⟨hc, 0, none⟩), .pointer (some ⟨hbd, 0, none⟩)] := hT 0 (by decide)
            have t1 : vs 1 = .slice A l.length c := hT 1 (by decide)
            have t2 : vs 2 = .int .i64 G := hT 2 (by decide)
            have t3 : vs 3 = .int .i64 G := hT 3 (by decide)
            have t4 : vs 4 = .bool true := hT 4 (by decide)
            have t5 : vs 5 = .bool true := hT 5 (by decide)
            have t6 : vs 6 = .int .i64 S := hT 6 (by decide)
            have t7 : vs 7 = .int .i64 T := hT 7 (by decide)
            have t8 : vs 8 = .bool true := hT 8 (by decide)
            simp only [t0, t1, t2, t3, t4, t5, t6, t7, t8] at hK
            have H := Lib.hid hK
            clear hK hT
            go_simp
            exact H.out _ _ (Below.refl _ _) rfl (fun h => by cases h) trivial
          refine Rg.cons 10 11 rfl (Rg.skipped (fun _ => Below.refl _ _) (fun _ _ => rfl) (by decide) (fun _ _ h => h) ?_) ?_
          · intro vs W hT
            have tg : vs 9 = .bool true := hT 9 (by decide)
            simp only [Rg.putsD, List.getD_cons_zero, List.getD_cons_succ, Act.put, List.setIfInBounds_toArray, List.set_cons_zero, List.set_cons_succ, tg]
            rfl
          refine Rg.cons 11 12 rfl (Rg.skipped (fun _ => Below.refl _ _) (fun _ _ => rfl) (by decide) (fun _ _ h => h) ?_) ?_
          · intro vs W hT
            have tg : vs 9 = .bool true := hT 9 (by decide)
            simp only [Rg.putsD, List.getD_cons_zero, List.getD_cons_succ, Act.put, List.setIfInBounds_toArray, List.set_cons_zero, List.set_cons_succ, tg]
            rfl
          refine Rg.cons 12 13 rfl (Rg.skipped (fun _ => Below.refl _ _) (fun _ _ => rfl) (by decide) (fun _ _ h => h) ?_) ?_
          · intro vs W hT
            have tg : vs 9 = .bool true := hT 9 (by decide)
            simp only [Rg.putsD, List.getD_cons_zero, List.getD_cons_succ, Act.put, List.setIfInBounds_toArray, List.set_cons_zero, List.set_cons_succ, tg]
            rfl
          refine Rg.cons 13 14 rfl (Rg.skipped (fun _ => Below.refl _ _) (fun _ _ => rfl) (by decide) (fun _ _ h => h) ?_) ?_
          · intro vs W hT
            have tg : vs 9 = .bool true := hT 9 (by decide)
            simp only [Rg.putsD, List.getD_cons_zero, List.getD_cons_succ, Act.put, List.setIfInBounds_toArray, List.set_cons_zero, List.set_cons_succ, tg]
            rfl
          refine Rg.cons 14 15 rfl (Rg.skipped (fun _ => Below.refl _ _) (fun _ _ => rfl) (by decide) (fun _ _ h => h) ?_) ?_
          · intro vs W hT
            have tg : vs 13 = undef := hT 13 (by decide)
            simp only [Rg.putsD, List.getD_cons_zero, List.getD_cons_succ, Act.put, List.setIfInBounds_toArray, List.set_cons_zero, List.set_cons_succ, tg]
            rfl
          refine Rg.cons 15 16 rfl (Rg.skipped (fun _ => Below.refl _ _) (fun _ _ => rfl) (by decide) (fun _ _ h => h) ?_) ?_
          · intro vs W hT
            have tg : vs 13 = undef := hT 13 (by decide)
            simp only [Rg.putsD, List.getD_cons_zero, List.getD_cons_succ, Act.put, List.setIfInBounds_toArray, List.set_cons_zero, List.set_cons_succ, tg]
            rfl
          exact Rg.nil
        · intro vs W hG hI hT hF
          have t0 : vs 0 = .func (.func 66) #[] #[.pointer (some ⟨hc, 0, none⟩), .pointer (some ⟨hbd, 0, none⟩)] := hT 0 (by decide)
          have t1 : vs 1 = .slice A l.length c := hT 1 (by decide)
          have t2 : vs 2 = .int .i64 G := hT 2 (by decide)
          have t3 : vs 3 = .int .i64 G := hT 3 (by decide)
          have t4 : vs 4 = .bool true := hT 4 (by decide)
          have t5 : vs 5 = .bool true := hT 5 (by decide)
          have t6 : vs 6 = .int .i64 S := hT 6 (by decide)
          have t7 : vs 7 = .int .i64 T := hT 7 (by decide)
          have t8 : vs 8 = .bool true := hT 8 (by decide)
          have t9 : vs 9 = .bool true := hT 9 (by decide)
          have t10 : vs 10 = undef := hT 10 (by decide)
          have t11 : vs 11 = undef := hT 11 (by decide)
          have t12 : vs 12 = undef := hT 12 (by decide)
          have t13 : vs 13 = undef := hT 13 (by decide)
          have t14 : vs 14 = undef := hT 14 (by decide)
          have t15 : vs 15 = undef := hT 15 (by decide)
          simp only [List.length_cons, List.length_nil, Nat.reduceAdd, List.range, List.range.loop, List.drop_succ_cons, List.drop_zero, Rg.putsD, List.getD_cons_zero, List.getD_cons_succ, Act.put, List.setIfInBounds_toArray, List.set_cons_zero, List.set_cons_succ, t0, t1, t2, t3, t4, t5, t6, t7, t8, t9, t10, t11, t12, t13, t14, t15]
          clear hT t0 t1 t2 t3 t4 t5 t6 t7 t8 t9 t10 t11 t12 t13 t14 t15
          have HG3 : Hid (Below w2.heap.size w2 W) := (Below.refl _ _).drew.then_below hG (Nat.le_refl _)
          have HE3 := Lib.hid (HE2.out.below HG3.out)
          have HR3 := Lib.hid (HR2.out.below HG3.out)
          have HK3 := Lib.hid (blk_below HG3.out HK2.out.1)
          have HG4 : Hid (Below W0.heap.size W0 W) := HG2.out.then_below HG3.out HG2.out.size
          clear hG hI hF HE2 HR2 HK2 HG2
          go_wp2_with fail
          refine (CC.out W HR3.out.reads (HST.out HLTD.out)).mono ?_
          rintro e w4 ⟨v4, rfl, o4, b4⟩
          obtain ⟨A4, c4, rfl, _⟩ := own_form o4
          have hWz : g2 < W.heap.size := lt_of_blk HK3.out
          have HX4 : Hid (ReadsX g2 (.slice A4 l.length c4) l w4) := readsX_old (readsF_own (by rw [flatN_map]; exact o4)) hWz
          have HK4 := Lib.hid (blk_below b4 HK3.out)
          have HG5 : Hid (Below W0.heap.size W0 w4) := HG4.out.then_below b4 HG4.out.size
          obtain ⟨d0, fd0, ld0⟩ := blk1 HK4.out
          clear o4 b4 hWz
          go_wp2_with fail
          refine bodyPost_ret (v := .tuple #[]) (by unfold results; simp only [Try.results68]; go_simp) rfl ⟨rfl, (Kept.of_below HG5.out : Kept g2 W0 w4).store (p := ⟨g2, 0, none⟩) (.inl rfl) _, ?_⟩
          rw [← HLT.out HLTD.out]
          exact ⟨A4, c4, blk_set HK4.out _, HX4.out.set _ _⟩
      · have HZ := Lib.hid (HGE.out (by omega))
        by_cases heq : S = T
        · subst heq
          have HLB := Lib.hid (HEQ.out rfl)
          refine Rg.rgL (fun a b => Below a.heap.size a b)
            [(fun vs u => vs 0 = .func (.func 66) #[] #[.pointer (some ⟨hc, 0, none⟩), .pointer (some ⟨hbd, 0, none⟩)]), (fun vs u => vs 1 = .slice A l.length c), (fun vs u => vs 2 = .int .i64 G), (fun vs u => vs 3 = .int .i64 G), (fun vs u => vs 4 = .bool true), (fun vs u => vs 5 = .bool true), (fun vs u => vs 6 = .int .i64 S), (fun vs u => vs 7 = .int .i64 S), (fun vs u => vs 8 = .bool false), (fun vs u => vs 9 = .bool false), (fun vs u => vs 10 = .int .i64 S), (fun vs u => vs 11 = .int .i64 S), (fun vs u => vs 12 = .bool true), (fun vs u => vs 13 = .bool true), (fun vs u => vs 14 = .slice A l.length c), (fun vs u => vs 15 = .slice Ab B.length cb)]
            [[], [], [0, 1], [], [0, 1, 2, 3], [0, 1, 2, 3, 4], [0, 1, 2, 3, 4, 5], [0, 1, 2, 3, 4, 5], [0, 1, 2, 3, 4, 5, 6, 7], [0, 1, 2, 3, 4, 5, 6, 7, 8], [0, 1, 2, 3, 4, 5, 6, 7, 8, 9], [0, 1, 2, 3, 4, 5, 6, 7, 8, 9], [0, 1, 2, 3, 4, 5, 6, 7, 8, 9, 10, 11], [0, 1, 2, 3, 4, 5, 6, 7, 8, 9, 10, 11, 12], [0, 1, 2, 3, 4, 5, 6, 7, 8, 9, 10, 11, 12, 13], [0, 1, 2, 3, 4, 5, 6, 7, 8, 9, 10, 11, 12, 13]] [some 19, some 20, some 21, some 22, some 23, some 24, some 25, some 26, some 27, some 28, some 29, some 30, some 31, some 32, some 33, some 34, some 35, some 36, some 37, some 38, some 39] [] (fun _ _ => True) [[], [], [0, 1], [], [0, 1, 2, 3], [0, 1, 2, 3, 4], [0, 1, 2, 3, 4, 5], [0, 1, 2, 3, 4, 5], [0, 1, 2, 3, 4, 5, 6, 7], [0, 1, 2, 3, 4, 5, 6, 7, 8], [0, 1, 2, 3, 4, 5, 6, 7, 8, 9], [0, 1, 2, 3, 4, 5, 6, 7, 8, 9], [0, 1, 2, 3, 4, 5, 6, 7, 8, 9, 10, 11], [0, 1, 2, 3, 4, 5, 6, 7, 8, 9, 10, 11, 12], [0, 1, 2, 3, 4, 5, 6, 7, 8, 9, 10, 11, 12, 13], [0, 1, 2, 3, 4, 5, 6, 7, 8, 9, 10, 11, 12, 13], [0, 1, 2, 3, 4, 5, 6, 7, 8, 9, 10, 11, 12, 13, 14, 15], [0, 1, 2, 3, 4, 5, 6, 7, 8, 9, 10, 11, 12, 13, 14, 15, 16], [0, 1, 2, 3, 4, 5, 6, 7, 8, 9, 10, 11, 12, 13, 14, 15, 16, 17], [0, 1, 2, 3, 4, 5, 6, 7, 8, 9, 10, 11, 12, 13, 14, 15, 16, 17, 18], [0, 1, 2, 3, 4, 5, 6, 7, 8, 9, 10, 11, 12, 13, 14, 15, 16, 17, 18, 19]]
            (by kernel_rfl) (by decide) (by kernel_rfl) (by kernel_rfl) (by kernel_rfl) (by kernel_rfl) (by kernel_rfl) (fun _ => Below.refl _ _) (fun _ _ _ h k => h.ext k) (fun _ _ h => h.size) ?_ trivial ?_ ?_
          · intro t ht vs w w' h hE
            simp only [List.mem_cons, List.not_mem_nil, or_false] at ht
            rcases ht with rfl | rfl | rfl | rfl | rfl | rfl | rfl | rfl | rfl | rfl | rfl | rfl | rfl | rfl | rfl | rfl
            · exact h
            · exact h
            · exact h
            · exact h
            · exact h
            · exact h
            · exact h
            · exact h
            · exact h
            · exact h
            · exact h
            · exact h
            · exact h
            · exact h
            · exact h
            · exact h
          ·
            refine Rg.cons 0 1 rfl (Rg.plain rfl ?_) ?_
            · intro vs W n hn hI hG hT hF K hK
              simp only [Rg.putsD, List.getD_cons_zero, List.getD_cons_succ, Act.put, List.setIfInBounds_toArray, List.set_cons_zero, List.set_cons_succ] at hK ⊢
              clear hn
              clear hF hI
              obtain ⟨d0, _, ld0⟩ := blk1 (blk_below hG HE2.out.k3)
              simp only [endF] at d0
              have H := Lib.hid hK
              clear hK hT
              go_simp
              exact H.out _ _ (Below.refl _ _) rfl (fun h => by cases h) trivial
            refine Rg.cons 1 2 rfl (Rg.plain rfl ?_) ?_
            · intro vs W n hn hI hG hT hF K hK
              simp only [Rg.putsD, List.getD_cons_zero, List.getD_cons_succ, Act.put, List.setIfInBounds_toArray, List.set_cons_zero, List.set_cons_succ] at hK ⊢
              clear hn
              clear hF hI
              have H := Lib.hid hK
              clear hK hT
              go_simp
              exact H.out _ _ (Below.refl _ _) rfl (fun h => by cases h) trivial
            refine Rg.cons 2 3 rfl (Rg.plain rfl ?_) ?_
            · intro vs W n hn hI hG hT hF K hK
              simp only [Rg.putsD, List.getD_cons_zero, List.getD_cons_succ, Act.put, List.setIfInBounds_toArray, List.set_cons_zero, List.set_cons_succ] at hK ⊢
              clear hn
              clear hF hI
              have t0 : vs 0 = .func (.func 66) #[] #[.pointer (some ⟨hc, 0, none⟩), .pointer (some ⟨hbd, 0, none⟩)] := hT 0 (by decide)
              have t1 : vs 1 = .slice A l.length c := hT 1 (by decide)
              have HG := Lib.hid hG
              clear hG
              simp only [t0, t1] at hK
              have H := Lib.hid hK
              clear hK hT
              go_simp
              have HEW := HE2.out.below ((Below.refl _ _).drew.then_below HG.out (Nat.le_refl _))
              refine (CE.out _ HEW.rd.reads (HR2.out.below ((Below.refl _ _).drew.then_below HG.out (Nat.le_refl _))).reads HEW.kc HEW.kb).mono ?_
              rintro e wa ⟨rfl, ba⟩
              exact H.out _ _ ba rfl (fun h => by cases h) trivial
            refine Rg.cons 3 4 rfl (Rg.plain rfl ?_) ?_
            · intro vs W n hn hI hG hT hF K hK
              simp only [Rg.putsD, List.getD_cons_zero, List.getD_cons_succ, Act.put, List.setIfInBounds_toArray, List.set_cons_zero, List.set_cons_succ] at hK ⊢
              clear hn
              clear hF hI
              obtain ⟨d0, _, ld0⟩ := blk1 (blk_below hG HE2.out.k4)
              have H := Lib.hid hK
              clear hK hT
              go_simp
              exact H.out _ _ (Below.refl _ _) rfl (fun h => by cases h) trivial
            refine Rg.cons 4 5 rfl (Rg.plain rfl ?_) ?_
            · intro vs W n hn hI hG hT hF K hK
              simp only [Rg.putsD, List.getD_cons_zero, List.getD_cons_succ, Act.put, List.setIfInBounds_toArray, List.set_cons_zero, List.set_cons_succ] at hK ⊢
              clear hn
              clear hF hI
              have t0 : vs 0 = .func (.func 66) #[] #[.pointer (some ⟨hc, 0, none⟩), .pointer (some ⟨hbd, 0, none⟩)] := hT 0 (by decide)
              have t1 : vs 1 = .slice A l.length c := hT 1 (by decide)
              have t2 : vs 2 = .int .i64 G := hT 2 (by decide)
              have t3 : vs 3 = .int .i64 G := hT 3 (by decide)
              simp only [t0, t1, t2, t3] at hK
              have H := Lib.hid hK
              clear hK hT
              go_simp
              exact H.out _ _ (Below.refl _ _) rfl (fun h => by cases h) trivial
            refine Rg.cons 5 6 rfl (Rg.plain rfl ?_) ?_
            · intro vs W n hn hI hG hT hF K hK
              simp only [Rg.putsD, List.getD_cons_zero, List.getD_cons_succ, Act.put, List.setIfInBounds_toArray, List.set_cons_zero, List.set_cons_succ] at hK ⊢
              clear hn
              clear hF hI
              have t0 : vs 0 = .func (.func 66) #[] #[.pointer (some ⟨hc, 0, none⟩), .pointer (some ⟨hbd, 0, none⟩)] := hT 0 (by decide)
              have t1 : vs 1 = .slice A l.length c := hT 1 (by decide)
              have t2 : vs 2 = .int .i64 G := hT 2 (by decide)
              have t3 : vs 3 = .int .i64 G := hT 3 (by decide)
              have t4 : vs 4 = .bool true := hT 4 (by decide)
              simp only [t0, t1, t2, t3, t4] at hK
              have H := Lib.hid hK
              clear hK hT
              go_simp
              exact H.out _ _ (Below.refl _ _) rfl (fun h => by cases h) trivial
            refine Rg.cons 6 7 rfl (Rg.guarded ?_ ?_) ?_
            · intro vs W hT
              have tg : vs 5 = .bool true := hT 5 (by decide)
              simp only [Rg.putsD, List.getD_cons_zero, List.getD_cons_succ, Act.put, List.setIfInBounds_toArray, List.set_cons_zero, List.set_cons_succ, tg]
              rfl
            · intro vs W n hn hI hG hT hF K hK
              simp only [Rg.putsD, List.getD_cons_zero, List.getD_cons_succ, Act.put, List.setIfInBounds_toArray, List.set_cons_zero, List.set_cons_succ] at hK ⊢
              clear hn
              clear hF hI
              have t0 : vs 0 = .func (.func 66) #[] #[.pointer (some ⟨hc, 0, none⟩), .pointer (some ⟨hbd, 0, none⟩)] := hT 0 (by decide)
              have t1 : vs 1 = .slice A l.length c := hT 1 (by decide)
              have t2 : vs 2 = .int .i64 G := hT 2 (by decide)
              have t3 : vs 3 = .int .i64 G := hT 3 (by decide)
              have t4 : vs 4 = .bool true := hT 4 (by decide)
              have t5 : vs 5 = .bool true := hT 5 (by decide)
              simp only [t0, t1, t2, t3, t4, t5] at hK
              have H := Lib.hid hK
              clear hK hT
              go_simp
              exact H.out _ _ (Below.refl _ _) rfl (fun h => by cases h) trivial
            refine Rg.cons 7 8 rfl (Rg.guarded ?_ ?_) ?_
            · intro vs W hT
              have tg : vs 5 = .bool true := hT 5 (by decide)
              simp only [Rg.putsD, List.getD_cons_zero, List.getD_cons_succ, Act.put, List.setIfInBounds_toArray, List.set_cons_zero, List.set_cons_succ, tg]
              rfl
            · intro vs W n hn hI hG hT hF K hK
              simp only [Rg.putsD, List.getD_cons_zero, List.getD_cons_succ, Act.put, List.setIfInBounds_toArray, List.set_cons_zero, List.set_cons_succ] at hK ⊢
              clear hn
              clear hF hI
              have t0 : vs 0 = .func (.func 66) #[] #[.pointer (some ⟨hc, 0, none⟩), .pointer (some ⟨hbd, 0, none⟩)] := hT 0 (by decide)
              have t1 : vs 1 = .slice A l.length c := hT 1 (by decide)
              have t2 : vs 2 = .int .i64 G := hT 2 (by decide)
              have t3 : vs 3 = .int .i64 G := hT 3 (by decide)
              have t4 : vs 4 = .bool true := hT 4 (by decide)
              have t5 : vs 5 = .bool true := hT 5 (by decide)
              simp only [t0, t1, t2, t3, t4, t5] at hK
              have H := Lib.hid hK
              clear hK hT
              go_simp
              exact H.out _ _ (Below.refl _ _) rfl (fun h => by cases h) trivial
            refine Rg.cons 8 9 rfl (Rg.guarded ?_ ?_) ?_
            · intro vs W hT
              have tg : vs 5 = .bool true := hT 5 (by decide)
              simp only [Rg.putsD, List.getD_cons_zero, List.getD_cons_succ, Act.put, List.setIfInBounds_toArray, List.set_cons_zero, List.set_cons_succ, tg]
              rfl
            · intro vs W n hn hI hG hT hF K hK
              simp only [Rg.putsD, List.getD_cons_zero, List.getD_cons_succ, Act.put, List.setIfInBounds_toArray, List.set_cons_zero, List.set_cons_succ] at hK ⊢
              clear hn
              clear hF hI
              have t0 : vs 0 = .func (.func 66) #[] #[.pointer (some ⟨hc, 0, none⟩), .pointer (some ⟨hbd, 0, none⟩)] := hT 0 (by decide)
              have t1 : vs 1 = .slice A l.length c := hT 1 (by decide)
              have t2 : vs 2 = .int .i64 G := hT 2 (by decide)
              have t3 : vs 3 = .int .i64 G := hT 3 (by decide)
              have t4 : vs 4 = .bool true := hT 4 (by decide)
              have t5 : vs 5 = .bool true := hT 5 (by decide)
              have t6 : vs 6 = .int .i64 S := hT 6 (by decide)
              have t7 : vs 7 = .int .i64 S := hT 7 (by decide)
              simp only [t0, t1, t2, t3, t4, t5, t6, t7] at hK
              have H := Lib.hid hK
              clear hK hT
              go_simp
              exact H.out _ _ (Below.refl _ _) rfl (fun h => by cases h) trivial
            refine Rg.cons 9 10 rfl (Rg.guarded ?_ ?_) ?_
            · intro vs W hT
              have tg : vs 5 = .bool true := hT 5 (by decide)
              simp only [Rg.putsD, List.getD_cons_zero, List.getD_cons_succ, Act.put, List.setIfInBounds_toArray, List.set_cons_zero, List.set_cons_succ, tg]
              rfl
            · intro vs W n hn hI hG hT hF K hK
              simp only [Rg.putsD, List.getD_cons_zero, List.getD_cons_succ, Act.put, List.setIfInBounds_toArray, List.set_cons_zero, List.set_cons_succ] at hK ⊢
              clear hn
              clear hF hI
              have t0 : vs 0 = .func (.func 66) #[] #[.pointer (some ⟨hc, 0, none⟩), .pointer (some ⟨hbd, 0, none⟩)] := hT 0 (by decide)
              have t1 : vs 1 = .slice A l.length c := hT 1 (by decide)
              have t2 : vs 2 = .int .i64 G := hT 2 (by decide)
              have t3 : vs 3 = .int .i64 G := hT 3 (by decide)
              have t4 : vs 4 = .bool true := hT 4 (by decide)
              have t5 : vs 5 = .bool true := hT 5 (by decide)
              have t6 : vs 6 = .int .i64 S := hT 6 (by decide)
              have t7 : vs 7 = .int .i64 S := hT 7 (by decide)
              have t8 : vs 8 = .bool false := hT 8 (by decide)
              simp only [t0, t1, t2, t3, t4, t5, t6, t7, t8] at hK
              have H := Lib.hid hK
              clear hK hT
              go_simp
              exact H.out _ _ (Below.refl _ _) rfl (fun h => by cases h) trivial
            refine Rg.cons 10 11 rfl (Rg.guarded ?_ ?_) ?_
            · intro vs W hT
              have tg : vs 9 = .bool false := hT 9 (by decide)
              simp only [Rg.putsD, List.getD_cons_zero, List.getD_cons_succ, Act.put, List.setIfInBounds_toArray, List.set_cons_zero, List.set_cons_succ, tg]
              rfl
            · intro vs W n hn hI hG hT hF K hK
              simp only [Rg.putsD, List.getD_cons_zero, List.getD_cons_succ, Act.put, List.setIfInBounds_toArray, List.set_cons_zero, List.set_cons_succ] at hK ⊢
              clear hn
              clear hF hI
              have t0 : vs 0 = .func (.func 66) #[] #[.pointer (some ⟨hc, 0, none⟩), .pointer (some ⟨hbd, 0, none⟩)] := hT 0 (by decide)
              have t1 : vs 1 = .slice A l.length c := hT 1 (by decide)
              have t2 : vs 2 = .int .i64 G := hT 2 (by decide)
              have t3 : vs 3 = .int .i64 G := hT 3 (by decide)
              have t4 : vs 4 = .bool true := hT 4 (by decide)
              have t5 : vs 5 = .bool true := hT 5 (by decide)
              have t6 : vs 6 = .int .i64 S := hT 6 (by decide)
              have t7 : vs 7 = .int .i64 S := hT 7 (by decide)
              have t8 : vs 8 = .bool false := hT 8 (by decide)
              have t9 : vs 9 = .bool false := hT 9 (by decide)
              simp only [t0, t1, t2, t3, t4, t5, t6, t7, t8, t9] at hK
              have H := Lib.hid hK
              clear hK hT
              go_simp
              exact H.out _ _ (Below.refl _ _) rfl (fun h => by cases h) trivial
            refine Rg.cons 11 12 rfl (Rg.guarded ?_ ?_) ?_
            · intro vs W hT
              have tg : vs 9 = .bool false := hT 9 (by decide)
              simp only [Rg.putsD, List.getD_cons_zero, List.getD_cons_succ, Act.put, List.setIfInBounds_toArray, List.set_cons_zero, List.set_cons_succ, tg]
              rfl
            · intro vs W n hn hI hG hT hF K hK
              simp only [Rg.putsD, List.getD_cons_zero, List.getD_cons_succ, Act.put, List.setIfInBounds_toArray, List.set_cons_zero, List.set_cons_succ] at hK ⊢
              clear hn
              clear hF hI
              have t0 : vs 0 = .func (.func 66) #[] #[.pointer (some ⟨hc, 0, none⟩), .pointer (some ⟨hbd, 0, none⟩)] := hT 0 (by decide)
              have t1 : vs 1 = .slice A l.length c := hT 1 (by decide)
              have t2 : vs 2 = .int .i64 G := hT 2 (by decide)
              have t3 : vs 3 = .int .i64 G := hT 3 (by decide)
              have t4 : vs 4 = .bool true := hT 4 (by decide)
              have t5 : vs 5 = .bool true := hT 5 (by decide)
              have t6 : vs 6 = .int .i64 S := hT 6 (by decide)
              have t7 : vs 7 = .int .i64 S := hT 7 (by decide)
              have t8 : vs 8 = .bool false := hT 8 (by decide)
              have t9 : vs 9 = .bool false := hT 9 (by decide)
              simp only [t0, t1, t2, t3, t4, t5, t6, t7, t8, t9] at hK
              have H := Lib.hid hK
              clear hK hT
              go_simp
              exact H.out _ _ (Below.refl _ _) rfl (fun h => by cases h) trivial
            refine Rg.cons 12 13 rfl (Rg.guarded ?_ ?_) ?_
            · intro vs W hT
              have tg : vs 9 = .bool false := hT 9 (by decide)
              simp only [Rg.putsD, List.getD_cons_zero, List.getD_cons_succ, Act.put, List.setIfInBounds_toArray, List.set_cons_zero, List.set_cons_succ, tg]
              rfl
            · intro vs W n hn hI hG hT hF K hK
              simp only [Rg.putsD, List.getD_cons_zero, List.getD_cons_succ, Act.put, List.setIfInBounds_toArray, List.set_cons_zero, List.set_cons_succ] at hK ⊢
              clear hn
              clear hF hI
              have t0 : vs 0 = .func (.func 66) #[] #[.pointer (some ⟨hc, 0, none⟩), .pointer (some ⟨hbd, 0, none⟩)] := hT 0 (by decide)
              have t1 : vs 1 = .slice A l.length c := hT 1 (by decide)
              have t2 : vs 2 = .int .i64 G := hT 2 (by decide)
              have t3 : vs 3 = .int .i64 G := hT 3 (by decide)
              have t4 : vs 4 = .bool true := hT 4 (by decide)
              have t5 : vs 5 = .bool true := hT 5 (by decide)
              have t6 : vs 6 = .int .i64 S := hT 6 (by decide)
              have t7 : vs 7 = .int .i64 S := hT 7 (by decide)
              have t8 : vs 8 = .bool false := hT 8 (by decide)
              have t9 : vs 9 = .bool false := hT 9 (by decide)
              have t10 : vs 10 = .int .i64 S := hT 10 (by decide)
              have t11 : vs 11 = .int .i64 S := hT 11 (by decide)
              simp only [t0, t1, t2, t3, t4, t5, t6, t7, t8, t9, t10, t11] at hK
              have H := Lib.hid hK
              clear hK hT
              go_simp
              exact H.out _ _ (Below.refl _ _) rfl (fun h => by cases h) trivial
            refine Rg.cons 13 14 rfl (Rg.guarded ?_ ?_) ?_
            · intro vs W hT
              have tg : vs 9 = .bool false := hT 9 (by decide)
              simp only [Rg.putsD, List.getD_cons_zero, List.getD_cons_succ, Act.put, List.setIfInBounds_toArray, List.set_cons_zero, List.set_cons_succ, tg]
              rfl
            · intro vs W n hn hI hG hT hF K hK
              simp only [Rg.putsD, List.getD_cons_zero, List.getD_cons_succ, Act.put, List.setIfInBounds_toArray, List.set_cons_zero, List.set_cons_succ] at hK ⊢
              clear hn
              clear hF hI
              have t0 : vs 0 = .func (.func 66) #[] #[.pointer (some ⟨hc, 0, none⟩), .pointer (some ⟨hbd, 0, none⟩)] := hT 0 (by decide)
              have t1 : vs 1 = .slice A l.length c := hT 1 (by decide)
              have t2 : vs 2 = .int .i64 G := hT 2 (by decide)
              have t3 : vs 3 = .int .i64 G := hT 3 (by decide)
              have t4 : vs 4 = .bool true := hT 4 (by decide)
              have t5 : vs 5 = .bool true := hT 5 (by decide)
              have t6 : vs 6 = .int .i64 S := hT 6 (by decide)
              have t7 : vs 7 = .int .i64 S := hT 7 (by decide)
              have t8 : vs 8 = .bool false := hT 8 (by decide)
              have t9 : vs 9 = .bool false := hT 9 (by decide)
              have t10 : vs 10 = .int .i64 S := hT 10 (by decide)
              have t11 : vs 11 = .int .i64 S := hT 11 (by decide)
              have t12 : vs 12 = .bool true := hT 12 (by decide)
              simp only [t0, t1, t2, t3, t4, t5, t6, t7, t8, t9, t10, t11, t12] at hK
              have H := Lib.hid hK
              clear hK hT
              go_simp
              exact H.out _ _ (Below.refl _ _) rfl (fun h => by cases h) trivial
            refine Rg.cons 14 15 rfl (Rg.guarded ?_ ?_) ?_
            · intro vs W hT
              have tg : vs 13 = .bool true := hT 13 (by decide)
              simp only [Rg.putsD, List.getD_cons_zero, List.getD_cons_succ, Act.put, List.setIfInBounds_toArray, List.set_cons_zero, List.set_cons_succ, tg]
              rfl
            · intro vs W n hn hI hG hT hF K hK
              simp only [Rg.putsD, List.getD_cons_zero, List.getD_cons_succ, Act.put, List.setIfInBounds_toArray, List.set_cons_zero, List.set_cons_succ] at hK ⊢
              clear hn
              clear hF hI
              have t0 : vs 0 = .func (.func 66) #[] #[.pointer (some ⟨hc, 0, none⟩), .pointer (some ⟨hbd, 0, none⟩)] := hT 0 (by decide)
              have t1 : vs 1 = .slice A l.length c := hT 1 (by decide)
              have t2 : vs 2 = .int .i64 G := hT 2 (by decide)
              have t3 : vs 3 = .int .i64 G := hT 3 (by decide)
              have t4 : vs 4 = .bool true := hT 4 (by decide)
              have t5 : vs 5 = .bool true := hT 5 (by decide)
              have t6 : vs 6 = .int .i64 S := hT 6 (by decide)
              have t7 : vs 7 = .int .i64 S := hT 7 (by decide)
              have t8 : vs 8 = .bool false := hT 8 (by decide)
              have t9 : vs 9 = .bool false := hT 9 (by decide)
              have t10 : vs 10 = .int .i64 S := hT 10 (by decide)
              have t11 : vs 11 = .int .i64 S := hT 11 (by decide)
              have t12 : vs 12 = .bool true := hT 12 (by decide)
              have t13 : vs 13 = .bool true := hT 13 (by decide)
              simp only [t0, t1, t2, t3, t4, t5, t6, t7, t8, t9, t10, t11, t12, t13] at hK
              have H := Lib.hid hK
              clear hK hT
              go_simp
              exact H.out _ _ (Below.refl _ _) rfl (fun h => by cases h) trivial
            refine Rg.cons 15 16 rfl (Rg.guarded ?_ ?_) ?_
            · intro vs W hT
              have tg : vs 13 = .bool true := hT 13 (by decide)
              simp only [Rg.putsD, List.getD_cons_zero, List.getD_cons_succ, Act.put, List.setIfInBounds_toArray, List.set_cons_zero, List.set_cons_succ, tg]
              rfl
            · intro vs W n hn hI hG hT hF K hK
              simp only [Rg.putsD, List.getD_cons_zero, List.getD_cons_succ, Act.put, List.setIfInBounds_toArray, List.set_cons_zero, List.set_cons_succ] at hK ⊢
              clear hn
              clear hF hI
              have t0 : vs 0 = .func (.func 66) #[] #[.pointer (some ⟨hc, 0, none⟩), .pointer (some ⟨hbd, 0, none⟩)] := hT 0 (by decide)
              have t1 : vs 1 = .slice A l.length c := hT 1 (by decide)
              have t2 : vs 2 = .int .i64 G := hT 2 (by decide)
              have t3 : vs 3 = .int .i64 G := hT 3 (by decide)
              have t4 : vs 4 = .bool true := hT 4 (by decide)
              have t5 : vs 5 = .bool true := hT 5 (by decide)
              have t6 : vs 6 = .int .i64 S := hT 6 (by decide)
              have t7 : vs 7 = .int .i64 S := hT 7 (by decide)
              have t8 : vs 8 = .bool false := hT 8 (by decide)
              have t9 : vs 9 = .bool false := hT 9 (by decide)
              have t10 : vs 10 = .int .i64 S := hT 10 (by decide)
              have t11 : vs 11 = .int .i64 S := hT 11 (by decide)
              have t12 : vs 12 = .bool true := hT 12 (by decide)
              have t13 : vs 13 = .bool true := hT 13 (by decide)
              obtain ⟨d0, _, ld0⟩ := blk1 (blk_below hG HK2.out.1)
              simp only [t0, t1, t2, t3, t4, t5, t6, t7, t8, t9, t10, t11, t12, t13] at hK
              have H := Lib.hid hK
              clear hK hT
              go_simp
              exact H.out _ _ (Below.refl _ _) rfl (fun h => by cases h) trivial
            exact Rg.nil
          · intro vs W hG hI hT hF
            have t0 : vs 0 = .func (.func 66) #[] #[.pointer (some ⟨hc, 0, none⟩), .pointer (some ⟨hbd, 0, none⟩)] := hT 0 (by decide)
            have t1 : vs 1 = .slice A l.length c := hT 1 (by decide)
            have t2 : vs 2 = .int .i64 G := hT 2 (by decide)
            have t3 : vs 3 = .int .i64 G := hT 3 (by decide)
            have t4 : vs 4 = .bool true := hT 4 (by decide)
            have t5 : vs 5 = .bool true := hT 5 (by decide)
            have t6 : vs 6 = .int .i64 S := hT 6 (by decide)
            have t7 : vs 7 = .int .i64 S := hT 7 (by decide)
            have t8 : vs 8 = .bool false := hT 8 (by decide)
            have t9 : vs 9 = .bool false := hT 9 (by decide)
            have t10 : vs 10 = .int .i64 S := hT 10 (by decide)
            have t11 : vs 11 = .int .i64 S := hT 11 (by decide)
            have t12 : vs 12 = .bool true := hT 12 (by decide)
            have t13 : vs 13 = .bool true := hT 13 (by decide)
            have t14 : vs 14 = .slice A l.length c := hT 14 (by decide)
            have t15 : vs 15 = .slice Ab B.length cb := hT 15 (by decide)
            simp only [List.length_cons, List.length_nil, Nat.reduceAdd, List.range, List.range.loop, List.drop_succ_cons, List.drop_zero, Rg.putsD, List.getD_cons_zero, List.getD_cons_succ, Act.put, List.setIfInBounds_toArray, List.set_cons_zero, List.set_cons_succ, t0, t1, t2, t3, t4, t5, t6, t7, t8, t9, t10, t11, t12, t13, t14, t15]
            clear hT t0 t1 t2 t3 t4 t5 t6 t7 t8 t9 t10 t11 t12 t13 t14 t15
            have HG3 : Hid (Below w2.heap.size w2 W) := (Below.refl _ _).drew.then_below hG (Nat.le_refl _)
            have HR3 := Lib.hid (HR2.out.below HG3.out)
            have HK3 := Lib.hid (And.intro (blk_below HG3.out HK2.out.1) (HK2.out.2.below HG3.out))
            have HG4 : Hid (Below W0.heap.size W0 W) := HG2.out.then_below HG3.out HG2.out.size
            clear hG hI hF HE2 HR2 HK2 HG2
            go_wp2_with fail
            refine (CM.out Ab cb W HLB.out HR3.out.reads HK3.out.2.reads).mono ?_
            rintro e w4 ⟨rfl, b4⟩
            have HG5 : Hid (Below W0.heap.size W0 w4) := HG4.out.then_below b4 HG4.out.size
            have HB5 : Hid (BB g2 B w4) := ⟨Ab, cb, blk_below b4 HK3.out.1, HK3.out.2.below b4⟩
            clear b4
            go_wp2_with fail
            refine bodyPost_ret (v := .tuple #[]) (by unfold results; simp only [Try.results68]; go_simp) rfl ⟨rfl, Kept.of_below HG5.out, ?_⟩
            rw [← HZ.out]
            exact HB5.out
        · have hne : (S == T) = false := by simpa using heq
          clear heq
          refine Rg.rgL (fun a b => Below a.heap.size a b)
            [(fun vs u => vs 0 = .func (.func 66) #[] #[.pointer (some ⟨hc, 0, none⟩), .pointer (some ⟨hbd, 0, none⟩)]), (fun vs u => vs 1 = .slice A l.length c), (fun vs u => vs 2 = .int .i64 G), (fun vs u => vs 3 = .int .i64 G), (fun vs u => vs 4 = .bool true), (fun vs u => vs 5 = .bool true), (fun vs u => vs 6 = .int .i64 S), (fun vs u => vs 7 = .int .i64 T), (fun vs u => vs 8 = .bool false), (fun vs u => vs 9 = .bool false), (fun vs u => vs 10 = .int .i64 S), (fun vs u => vs 11 = .int .i64 T), (fun vs u => vs 12 = .bool false), (fun vs u => vs 13 = .bool false), (fun vs u => vs 14 = undef), (fun vs u => vs 15 = undef)]
            [[], [], [0, 1], [], [0, 1, 2, 3], [0, 1, 2, 3, 4], [0, 1, 2, 3, 4, 5], [0, 1, 2, 3, 4, 5], [0, 1, 2, 3, 4, 5, 6, 7], [0, 1, 2, 3, 4, 5, 6, 7, 8], [0, 1, 2, 3, 4, 5, 6, 7, 8, 9], [0, 1, 2, 3, 4, 5, 6, 7, 8, 9], [0, 1, 2, 3, 4, 5, 6, 7, 8, 9, 10, 11], [0, 1, 2, 3, 4, 5, 6, 7, 8, 9, 10, 11, 12], [0, 1, 2, 3, 4, 5, 6, 7, 8, 9, 10, 11, 12, 13], [0, 1, 2, 3, 4, 5, 6, 7, 8, 9, 10, 11, 12, 13]] [some 19, some 20, some 21, some 22, some 23, some 24, some 25, some 26, some 27, some 28, some 29, some 30, some 31, some 32, some 33, some 34, some 35, some 36, some 37, some 38, some 39] [] (fun _ _ => True) [[], [], [0, 1], [], [0, 1, 2, 3], [0, 1, 2, 3, 4], [0, 1, 2, 3, 4, 5], [0, 1, 2, 3, 4, 5], [0, 1, 2, 3, 4, 5, 6, 7], [0, 1, 2, 3, 4, 5, 6, 7, 8], [0, 1, 2, 3, 4, 5, 6, 7, 8, 9], [0, 1, 2, 3, 4, 5, 6, 7, 8, 9], [0, 1, 2, 3, 4, 5, 6, 7, 8, 9, 10, 11], [0, 1, 2, 3, 4, 5, 6, 7, 8, 9, 10, 11, 12], [0, 1, 2, 3, 4, 5, 6, 7, 8, 9, 10, 11, 12, 13], [0, 1, 2, 3, 4, 5, 6, 7, 8, 9, 10, 11, 12, 13], [0, 1, 2, 3, 4, 5, 6, 7, 8, 9, 10, 11, 12, 13, 14, 15], [0, 1, 2, 3, 4, 5, 6, 7, 8, 9, 10, 11, 12, 13, 14, 15, 16], [0, 1, 2, 3, 4, 5, 6, 7, 8, 9, 10, 11, 12, 13, 14, 15, 16, 17], [0, 1, 2, 3, 4, 5, 6, 7, 8, 9, 10, 11, 12, 13, 14, 15, 16, 17, 18], [0, 1, 2, 3, 4, 5, 6, 7, 8, 9, 10, 11, 12, 13, 14, 15, 16, 17, 18, 19]]
            (by kernel_rfl) (by decide) (by kernel_rfl) (by kernel_rfl) (by kernel_rfl) (by kernel_rfl) (by kernel_rfl) (fun _ => Below.refl _ _) (fun _ _ _ h k => h.ext k) (fun _ _ h => h.size) ?_ trivial ?_ ?_
          · intro t ht vs w w' h hE
            simp only [List.mem_cons, List.not_mem_nil, or_false] at ht
            rcases ht with rfl | rfl | rfl | rfl | rfl | rfl | rfl | rfl | rfl | rfl | rfl | rfl | rfl | rfl | rfl | rfl
            · exact h
            · exact h
            · exact h
            · exact h
            · exact h
            · exact h
            · exact h
            · exact h
            · exact h
            · exact h
            · exact h
            · exact h
            · exact h
            · exact h
            · exact h
            · exact h
          ·
            refine Rg.cons 0 1 rfl (Rg.plain rfl ?_) ?_
            · intro vs W n hn hI hG hT hF K hK
              simp only [Rg.putsD, List.getD_cons_zero, List.getD_cons_succ, Act.put, List.setIfInBounds_toArray, List.set_cons_zero, List.set_cons_succ] at hK ⊢
              clear hn
              clear hF hI
              obtain ⟨d0, _, ld0⟩ := blk1 (blk_below hG HE2.out.k3)
              simp only [endF] at d0
              have H := Lib.hid hK
              clear hK hT
              go_simp
              exact H.out _ _ (Below.refl _ _) rfl (fun h => by cases h) trivial
            refine Rg.cons 1 2 rfl (Rg.plain rfl ?_) ?_
            · intro vs W n hn hI hG hT hF K hK
              simp only [Rg.putsD, List.getD_cons_zero, List.getD_cons_succ, Act.put, List.setIfInBounds_toArray, List.set_cons_zero, List.set_cons_succ] at hK ⊢
              clear hn
              clear hF hI
              have H := Lib.hid hK
              clear hK hT
              go_simp
              exact H.out _ _ (Below.refl _ _) rfl (fun h => by cases h) trivial
            refine Rg.cons 2 3 rfl (Rg.plain rfl ?_) ?_
            · intro vs W n hn hI hG hT hF K hK
              simp only [Rg.putsD, List.getD_cons_zero, List.getD_cons_succ, Act.put, List.setIfInBounds_toArray, List.set_cons_zero, List.set_cons_succ] at hK ⊢
              clear hn
              clear hF hI
              have t0 : vs 0 = .func (.func 66) #[] #[.pointer (some ⟨hc, 0, none⟩), .pointer (some ⟨hbd, 0, none⟩)] := hT 0 (by decide)
              have t1 : vs 1 = .slice A l.length c := hT 1 (by decide)
              have HG := Lib.hid hG
              clear hG
              simp only [t0, t1] at hK
              have H := Lib.hid hK
              clear hK hT
              go_simp
              have HEW := HE2.out.below ((Below.refl _ _).drew.then_below HG.out (Nat.le_refl _))
              refine (CE.out _ HEW.rd.reads (HR2.out.below ((Below.refl _ _).drew.then_below HG.out (Nat.le_refl _))).reads HEW.kc HEW.kb).mono ?_
              rintro e wa ⟨rfl, ba⟩
              exact H.out _ _ ba rfl (fun h => by cases h) trivial
            refine Rg.cons 3 4 rfl (Rg.plain rfl ?_) ?_
            · intro vs W n hn hI hG hT hF K hK
              simp only [Rg.putsD, List.getD_cons_zero, List.getD_cons_succ, Act.put, List.setIfInBounds_toArray, List.set_cons_zero, List.set_cons_succ] at hK ⊢
              clear hn
              clear hF hI
              obtain ⟨d0, _, ld0⟩ := blk1 (blk_below hG HE2.out.k4)
              have H := Lib.hid hK
              clear hK hT
              go_simp
              exact H.out _ _ (Below.refl _ _) rfl (fun h => by cases h) trivial
            refine Rg.cons 4 5 rfl (Rg.plain rfl ?_) ?_
            · intro vs W n hn hI hG hT hF K hK
              simp only [Rg.putsD, List.getD_cons_zero, List.getD_cons_succ, Act.put, List.setIfInBounds_toArray, List.set_cons_zero, List.set_cons_succ] at hK ⊢
              clear hn
              clear hF hI
              have t0 : vs 0 = .func (.func 66) #[] #[.pointer (some ⟨hc, 0, none⟩), .pointer (some ⟨hbd, 0, none⟩)] := hT 0 (by decide)
              have t1 : vs 1 = .slice A l.length c := hT 1 (by decide)
              have t2 : vs 2 = .int .i64 G := hT 2 (by decide)
              have t3 : vs 3 = .int .i64 G := hT 3 (by decide)
              simp only [t0, t1, t2, t3] at hK
              have H := Lib.hid hK
              clear hK hT
              go_simp
              exact H.out _ _ (Below.refl _ _) rfl (fun h => by cases h) trivial
            refine Rg.cons 5 6 rfl (Rg.plain rfl ?_) ?_
            · intro vs W n hn hI hG hT hF K hK
              simp only [Rg.putsD, List.getD_cons_zero, List.getD_cons_succ, Act.put, List.setIfInBounds_toArray, List.set_cons_zero, List.set_cons_succ] at hK ⊢
              clear hn
              clear hF hI
              have t0 : vs 0 = .func (.func 66) #[] #[.pointer (some ⟨hc, 0, none⟩), .pointer (some ⟨hbd, 0, none⟩)] := hT 0 (by decide)
              have t1 : vs 1 = .slice A l.length c := hT 1 (by decide)
              have t2 : vs 2 = .int .i64 G := hT 2 (by decide)
              have t3 : vs 3 = .int .i64 G := hT 3 (by decide)
              have t4 : vs 4 = .bool true := hT 4 (by decide)
              simp only [t0, t1, t2, t3, t4] at hK
              have H := Lib.hid hK
              clear hK hT
              go_simp
              exact H.out _ _ (Below.refl _ _) rfl (fun h => by cases h) trivial
            refine Rg.cons 6 7 rfl (Rg.guarded ?_ ?_) ?_
            · intro vs W hT
              have tg : vs 5 = .bool true := hT 5 (by decide)
              simp only [Rg.putsD, List.getD_cons_zero, List.getD_cons_succ, Act.put, List.setIfInBounds_toArray, List.set_cons_zero, List.set_cons_succ, tg]
              rfl
            · intro vs W n hn hI hG hT hF K hK
              simp only [Rg.putsD, List.getD_cons_zero, List.getD_cons_succ, Act.put, List.setIfInBounds_toArray, List.set_cons_zero, List.set_cons_succ] at hK ⊢
              clear hn
              clear hF hI
              have t0 : vs 0 = .func (.func 66) #[] #[.pointer (some ⟨hc, 0, none⟩), .pointer (some ⟨hbd, 0, none⟩)] := hT 0 (by decide)
              have t1 : vs 1 = .slice A l.length c := hT 1 (by decide)
              have t2 : vs 2 = .int .i64 G := hT 2 (by decide)
              have t3 : vs 3 = .int .i64 G := hT 3 (by decide)
              have t4 : vs 4 = .bool true := hT 4 (by decide)
              have t5 : vs 5 = .bool true := hT 5 (by decide)
              simp only [t0, t1, t2, t3, t4, t5] at hK
              have H := Lib.hid hK
              clear hK hT
              go_simp
              exact H.out _ _ (Below.refl _ _) rfl (fun h => by cases h) trivial
            refine Rg.cons 7 8 rfl (Rg.guarded ?_ ?_) ?_
            · intro vs W hT
              have tg : vs 5 = .bool true := hT 5 (by decide)
              simp only [Rg.putsD, List.getD_cons_zero, List.getD_cons_succ, Act.put, List.setIfInBounds_toArray, List.set_cons_zero, List.set_cons_succ, tg]
              rfl
            · intro vs W n hn hI hG hT hF K hK
              simp only [Rg.putsD, List.getD_cons_zero, List.getD_cons_succ, Act.put, List.setIfInBounds_toArray, List.set_cons_zero, List.set_cons_succ] at hK ⊢
              clear hn
              clear hF hI
              have t0 : vs 0 = .func (.func 66) #[] #[.pointer (some ⟨hc, 0, none⟩), .pointer (some ⟨hbd, 0, none⟩)] := hT 0 (by decide)
              have t1 : vs 1 = .slice A l.length c := hT 1 (by decide)
              have t2 : vs 2 = .int .i64 G := hT 2 (by decide)
              have t3 : vs 3 = .int .i64 G := hT 3 (by decide)
              have t4 : vs 4 = .bool true := hT 4 (by decide)
              have t5 : vs 5 = .bool true := hT 5 (by decide)
              simp only [t0, t1, t2, t3, t4, t5] at hK
              have H := Lib.hid hK
              clear hK hT
              go_simp
              exact H.out _ _ (Below.refl _ _) rfl (fun h => by cases h) trivial
            refine Rg.cons 8 9 rfl (Rg.guarded ?_ ?_) ?_
            · intro vs W hT
              have tg : vs 5 = .bool true := hT 5 (by decide)
              simp only [Rg.putsD, List.getD_cons_zero, List.getD_cons_succ, Act.put, List.setIfInBounds_toArray, List.set_cons_zero, List.set_cons_succ, tg]
              rfl
            · intro vs W n hn hI hG hT hF K hK
              simp only [Rg.putsD, List.getD_cons_zero, List.getD_cons_succ, Act.put, List.setIfInBounds_toArray, List.set_cons_zero, List.set_cons_succ] at hK ⊢
              clear hn
              clear hF hI
              have t0 : vs 0 = .func (.func 66) #[] #[.pointer (some ⟨hc, 0, none⟩), .pointer (some ⟨hbd, 0, none⟩)] := hT 0 (by decide)
              have t1 : vs 1 = .slice A l.length c := hT 1 (by decide)
              have t2 : vs 2 = .int .i64 G := hT 2 (by decide)
              have t3 : vs 3 = .int .i64 G := hT 3 (by decide)
              have t4 : vs 4 = .bool true := hT 4 (by decide)
              have t5 : vs 5 = .bool true := hT 5 (by decide)
              have t6 : vs 6 = .int .i64 S := hT 6 (by decide)
              have t7 : vs 7 = .int .i64 T := hT 7 (by decide)
              simp only [t0, t1, t2, t3, t4, t5, t6, t7] at hK
              have H := Lib.hid hK
              clear hK hT
              go_simp
              exact H.out _ _ (Below.refl _ _) rfl (fun h => by cases h) trivial
            refine Rg.cons 9 10 rfl (Rg.guarded ?_ ?_) ?_
            · intro vs W hT
              have tg : vs 5 = .bool true := hT 5 (by decide)
              simp only [Rg.putsD, List.getD_cons_zero, List.getD_cons_succ, Act.put, List.setIfInBounds_toArray, List.set_cons_zero, List.set_cons_succ, tg]
              rfl
            · intro vs W n hn hI hG hT hF K hK
              simp only [Rg.putsD, List.getD_cons_zero, List.getD_cons_succ, Act.put, List.setIfInBounds_toArray, List.set_cons_zero, List.set_cons_succ] at hK ⊢
              clear hn
              clear hF hI
              have t0 : vs 0 = .func (.func 66) #[] #[.pointer (some ⟨hc, 0, none⟩), .pointer (some ⟨hbd, 0, none⟩)] := hT 0 (by decide)
              have t1 : vs 1 = .slice A l.length c := hT 1 (by decide)
              have t2 : vs 2 = .int .i64 G := hT 2 (by decide)
              have t3 : vs 3 = .int .i64 G := hT 3 (by decide)
              have t4 : vs 4 = .bool true := hT 4 (by decide)
              have t5 : vs 5 = .bool true := hT 5 (by decide)
              have t6 : vs 6 = .int .i64 S := hT 6 (by decide)
              have t7 : vs 7 = .int .i64 T := hT 7 (by decide)
              have t8 : vs 8 = .bool false := hT 8 (by decide)
              simp only [t0, t1, t2, t3, t4, t5, t6, t7, t8] at hK
              have H := Lib.hid hK
              clear hK hT
              go_simp
              exact H.out _ _ (Below.refl _ _) rfl (fun h => by cases h) trivial
            refine Rg.cons 10 11 rfl (Rg.guarded ?_ ?_) ?_
            · intro vs W hT
              have tg : vs 9 = .bool false := hT 9 (by decide)
              simp only [Rg.putsD, List.getD_cons_zero, List.getD_cons_succ, Act.put, List.setIfInBounds_toArray, List.set_cons_zero, List.set_cons_succ, tg]
              rfl
            · intro vs W n hn hI hG hT hF K hK
              simp only [Rg.putsD, List.getD_cons_zero, List.getD_cons_succ, Act.put, List.setIfInBounds_toArray, List.set_cons_zero, List.set_cons_succ] at hK ⊢
              clear hn
              clear hF hI
              have t0 : vs 0 = .func (.func 66) #[] #[.pointer (some ⟨hc, 0, none⟩), .pointer (some ⟨hbd, 0, none⟩)] := hT 0 (by decide)
              have t1 : vs 1 = .slice A l.length c := hT 1 (by decide)
              have t2 : vs 2 = .int .i64 G := hT 2 (by decide)
              have t3 : vs 3 = .int .i64 G := hT 3 (by decide)
              have t4 : vs 4 = .bool true := hT 4 (by decide)
              have t5 : vs 5 = .bool true := hT 5 (by decide)
              have t6 : vs 6 = .int .i64 S := hT 6 (by decide)
              have t7 : vs 7 = .int .i64 T := hT 7 (by decide)
              have t8 : vs 8 = .bool false := hT 8 (by decide)
              have t9 : vs 9 = .bool false := hT 9 (by decide)
              simp only [t0, t1, t2, t3, t4, t5, t6, t7, t8, t9] at hK
              have H := Lib.hid hK
              clear hK hT
              go_simp
              exact H.out _ _ (Below.refl _ _) rfl (fun h => by cases h) trivial
            refine Rg.cons 11 12 rfl (Rg.guarded ?_ ?_) ?_
            · intro vs W hT
              have tg : vs 9 = .bool false := hT 9 (by decide)
              simp only [Rg.putsD, List.getD_cons_zero, List.getD_cons_succ, Act.put, List.setIfInBounds_toArray, List.set_cons_zero, List.set_cons_succ, tg]
              rfl
            · intro vs W n hn hI hG hT hF K hK
              simp only [Rg.putsD, List.getD_cons_zero, List.getD_cons_succ, Act.put, List.setIfInBounds_toArray, List.set_cons_zero, List.set_cons_succ] at hK ⊢
              clear hn
              clear hF hI
              have t0 : vs 0 = .func (.func 66) #[] #[.pointer (some ⟨hc, 0, none⟩), .pointer (some ⟨hbd, 0, none⟩)] := hT 0 (by decide)
              have t1 : vs 1 = .slice A l.length c := hT 1 (by decide)
              have t2 : vs 2 = .int .i64 G := hT 2 (by decide)
              have t3 : vs 3 = .int .i64 G := hT 3 (by decide)
              have t4 : vs 4 = .bool true := hT 4 (by decide)
              have t5 : vs 5 = .bool true := hT 5 (by decide)
              have t6 : vs 6 = .int .i64 S := hT 6 (by decide)
              have t7 : vs 7 = .int .i64 T := hT 7 (by decide)
              have t8 : vs 8 = .bool false := hT 8 (by decide)
              have t9 : vs 9 = .bool false := hT 9 (by decide)
              simp only [t0, t1, t2, t3, t4, t5, t6, t7, t8, t9] at hK
              have H := Lib.hid hK
              clear hK hT
              go_simp
              exact H.out _ _ (Below.refl _ _) rfl (fun h => by cases h) trivial
            refine Rg.cons 12 13 rfl (Rg.guarded ?_ ?_) ?_
            · intro vs W hT
              have tg : vs 9 = .bool false := hT 9 (by decide)
              simp only [Rg.putsD, List.getD_cons_zero, List.getD_cons_succ, Act.put, List.setIfInBounds_toArray, List.set_cons_zero, List.set_cons_succ, tg]
              rfl
            · intro vs W n hn hI hG hT hF K hK
              simp only [Rg.putsD, List.getD_cons_zero, List.getD_cons_succ, Act.put, List.setIfInBounds_toArray, List.set_cons_zero, List.set_cons_succ] at hK ⊢
              clear hn
              clear hF hI
              have t0 : vs 0 = .func (.func 66) #[] #[.pointer (some ⟨hc, 0, none⟩), .pointer (some ⟨hbd, 0, none⟩)] := hT 0 (by decide)
              have t1 : vs 1 = .slice A l.length c := hT 1 (by decide)
              have t2 : vs 2 = .int .i64 G := hT 2 (by decide)
              have t3 : vs 3 = .int .i64 G := hT 3 (by decide)
              have t4 : vs 4 = .bool true := hT 4 (by decide)
              have t5 : vs 5 = .bool true := hT 5 (by decide)
              have t6 : vs 6 = .int .i64 S := hT 6 (by decide)
              have t7 : vs 7 = .int .i64 T := hT 7 (by decide)
              have t8 : vs 8 = .bool false := hT 8 (by decide)
              have t9 : vs 9 = .bool false := hT 9 (by decide)
              have t10 : vs 10 = .int .i64 S := hT 10 (by decide)
              have t11 : vs 11 = .int .i64 T := hT 11 (by decide)
              simp only [t0, t1, t2, t3, t4, t5, t6, t7, t8, t9, t10, t11] at hK
              have H := Lib.hid hK
              clear hK hT
              go_simp
              exact H.out _ _ (Below.refl _ _) rfl (fun h => by cases h) trivial
            refine Rg.cons 13 14 rfl (Rg.guarded ?_ ?_) ?_
            · intro vs W hT
              have tg : vs 9 = .bool false := hT 9 (by decide)
              simp only [Rg.putsD, List.getD_cons_zero, List.getD_cons_succ, Act.put, List.setIfInBounds_toArray, List.set_cons_zero, List.set_cons_succ, tg]
              rfl
            · intro vs W n hn hI hG hT hF K hK
              simp only [Rg.putsD, List.getD_cons_zero, List.getD_cons_succ, Act.put, List.setIfInBounds_toArray, List.set_cons_zero, List.set_cons_succ] at hK ⊢
              clear hn
              clear hF hI
              have t0 : vs 0 = .func (.func 66) #[] #[.pointer (some ⟨hc, 0, none⟩), .pointer (some ⟨hbd, 0, none⟩)] := hT 0 (by decide)
              have t1 : vs 1 = .slice A l.length c := hT 1 (by decide)
              have t2 : vs 2 = .int .i64 G := hT 2 (by decide)
              have t3 : vs 3 = .int .i64 G := hT 3 (by decide)
              have t4 : vs 4 = .bool true := hT 4 (by decide)
              have t5 : vs 5 = .bool true := hT 5 (by decide)
              have t6 : vs 6 = .int .i64 S := hT 6 (by decide)
              have t7 : vs 7 = .int .i64 T := hT 7 (by decide)
              have t8 : vs 8 = .bool false := hT 8 (by decide)
              have t9 : vs 9 = .bool false := hT 9 (by decide)
              have t10 : vs 10 = .int .i64 S := hT 10 (by decide)
              have t11 : vs 11 = .int .i64 T := hT 11 (by decide)
              have t12 : vs 12 = .bool false := hT 12 (by decide)
              simp only [t0, t1, t2, t3, t4, t5, t6, t7, t8, t9, t10, t11, t12] at hK
              have H := Lib.hid hK
              clear hK hT
              go_simp
              exact H.out _ _ (Below.refl _ _) rfl (fun h => by cases h) trivial
            refine Rg.cons 14 15 rfl (Rg.skipped (fun _ => Below.refl _ _) (fun _ _ => rfl) (by decide) (fun _ _ h => h) ?_) ?_
            · intro vs W hT
              have tg : vs 13 = .bool false := hT 13 (by decide)
              simp only [Rg.putsD, List.getD_cons_zero, List.getD_cons_succ, Act.put, List.setIfInBounds_toArray, List.set_cons_zero, List.set_cons_succ, tg]
              rfl
            refine Rg.cons 15 16 rfl (Rg.skipped (fun _ => Below.refl _ _) (fun _ _ => rfl) (by decide) (fun _ _ h => h) ?_) ?_
            · intro vs W hT
              have tg : vs 13 = .bool false := hT 13 (by decide)
              simp only [Rg.putsD, List.getD_cons_zero, List.getD_cons_succ, Act.put, List.setIfInBounds_toArray, List.set_cons_zero, List.set_cons_succ, tg]
              rfl
            exact Rg.nil
          · intro vs W hG hI hT hF
            have t0 : vs 0 = .func (.func 66) #[] #[.pointer (some ⟨hc, 0, none⟩), .pointer (some ⟨hbd, 0, none⟩)] := hT 0 (by decide)
            have t1 : vs 1 = .slice A l.length c := hT 1 (by decide)
            have t2 : vs 2 = .int .i64 G := hT 2 (by decide)
            have t3 : vs 3 = .int .i64 G := hT 3 (by decide)
            have t4 : vs 4 = .bool true := hT 4 (by decide)
            have t5 : vs 5 = .bool true := hT 5 (by decide)
            have t6 : vs 6 = .int .i64 S := hT 6 (by decide)
            have t7 : vs 7 = .int .i64 T := hT 7 (by decide)
            have t8 : vs 8 = .bool false := hT 8 (by decide)
            have t9 : vs 9 = .bool false := hT 9 (by decide)
            have t10 : vs 10 = .int .i64 S := hT 10 (by decide)
            have t11 : vs 11 = .int .i64 T := hT 11 (by decide)
            have t12 : vs 12 = .bool false := hT 12 (by decide)
            have t13 : vs 13 = .bool false := hT 13 (by decide)
            have t14 : vs 14 = undef := hT 14 (by decide)
            have t15 : vs 15 = undef := hT 15 (by decide)
            simp only [List.length_cons, List.length_nil, Nat.reduceAdd, List.range, List.range.loop, List.drop_succ_cons, List.drop_zero, Rg.putsD, List.getD_cons_zero, List.getD_cons_succ, Act.put, List.setIfInBounds_toArray, List.set_cons_zero, List.set_cons_succ, t0, t1, t2, t3, t4, t5, t6, t7, t8, t9, t10, t11, t12, t13, t14, t15]
            clear hT t0 t1 t2 t3 t4 t5 t6 t7 t8 t9 t10 t11 t12 t13 t14 t15
            have HG3 : Hid (Below w2.heap.size w2 W) := (Below.refl _ _).drew.then_below hG (Nat.le_refl _)
            have HG4 : Hid (Below W0.heap.size W0 W) := HG2.out.then_below HG3.out HG2.out.size
            have HB5 : Hid (BB g2 B W) := ⟨Ab, cb, blk_below HG3.out HK2.out.1, HK2.out.2.below HG3.out⟩
            clear hG hI hF HE2 HR2 HK2 HG2
            go_wp2_with fail
            refine bodyPost_ret (v := .tuple #[]) (by unfold results; simp only [Try.results68]; go_simp) rfl ⟨rfl, Kept.of_below HG4.out, ?_⟩
            rw [← HZ.out]
            exact HB5.out
  | succ d ih =>
    intro l A c B W0 hln hx hA hE hR hB hS
    have HE := Lib.hid hE
    have HR := Lib.hid hR
    have HX := Lib.hid hx
    have HB0 : Hid (BB g2 B W0 ∧ Stand n most B l) := ⟨hB, hS⟩
    have IH := Lib.hid ih
    have CC := Lib.hid (fun (W : World) (h : Reads encN (.slice A l.length c) l W) => show Calls Try.prog 52 #[.slice A l.length c] W fun e w' => ∃ v', e = .returned v' ∧ w'.ownsRow W.heap.size 3 1 v' l.length (l.map (Value.int .i64)) ∧ (l.length = 0 → v' = .slice none 0 0) ∧ Below W.heap.size W w' by
      obtain ⟨A', c', e, h⟩ := h
      cases e
      by_cases h0 : l.length = 0
      · obtain ⟨rfl, rfl⟩ := hA h0
        have hl0 : l = [] := List.length_eq_zero_iff.mp h0
        subst hl0
        refine (Try.slices_Clone_int_nil 0 0 W).mono ?_
        rintro e w' ⟨rfl, rfl⟩
        exact ⟨_, rfl, World.ownsRow_nil _ _ _ _, fun _ => rfl, Below.refl _ _⟩
      · rcases h with rfl | ⟨g, rfl, h⟩
        · exact absurd rfl h0
        · refine (Try.slices_Clone_int g 0 l.length c l W (Nat.le_refl _) (by omega) (fun j hj => ?_)).mono ?_
          · rw [Nat.zero_add, row_n h hj, List.getD_eq_getElem?_getD, List.getElem?_eq_getElem hj]
            rfl
          · rintro e w' ⟨v', rfl, h1, _, h2⟩
            rw [List.take_of_length_le (Nat.le_refl _)] at h1
            exact ⟨_, rfl, h1, fun h => absurd h h0, h2⟩)
    have HLN := Lib.hid (And.intro hln hn)
    have hl4 : l.length ≤ 4 := by omega
    have hnl : ((l.length : Int) == (n : Int)) = false := by
      have : ¬ (l.length : Int) = (n : Int) := by omega
      simpa using this
    have hn5 : n ≤ 5 := by omega
    clear ih hcs h1 h6 hE hR hx hB hS hA hln hn
    obtain ⟨q1, _, l1⟩ := blk1 HE.out.k1
    obtain ⟨q5, _, l5⟩ := blk1 HE.out.k5
    have HM3 : Hid (most ≤ 3) := hmost
    go_enter Try.func68, Try.ntmps68
    go_wp2_with fail
    clear q1 l1 q5 l5
    go_loopw [44] (fun kk wr => ∃ (k : Nat) (B : List Int), k ≤ most + 1 ∧ kk = .int .i64 k ∧ Hid (EE cs m n most (lv cs (List.replicate n 0) (m - 1) (cs.length - 1)) v1 g1 g2 g3 g4 g5 g6 hc hbd wr ∧ Kept g2 W0 wr ∧ BB g2 B wr ∧ (k = 0 → Stand n most B l) ∧ (0 < k → B = List.replicate n 0))) (fun kk _ => most + 1 - (intOf kk).toNat)
    case atStart => exact ⟨0, B, by omega, rfl, HE.out, Kept.same _ _, HB0.out.1, fun _ => HB0.out.2, fun h => by omega⟩
    case round =>
      clear HB0
      obtain ⟨k, B, hk, rfl, HS⟩ := hrel
      by_cases hkm : k < most + 1
      · have hkm' : (k : Int) < (most : Int) + 1 := by omega
        have hk3 : k ≤ 3 := by omega
        have HR1 := Lib.hid (HR.out.kept HS.out.2.1)
        have HST : Hid (Stand n most B (l ++ [(k : Int)])) := by
          rcases Nat.eq_zero_or_pos k with h0 | h0
          · rcases HS.out.2.2.2.1 h0 with h | ⟨h, h'⟩
            · exact .inl h
            · refine .inr ⟨h, ?_⟩
              subst h0
              exact rep_snoc l h'
          · exact .inl (HS.out.2.2.2.2 h0)
        obtain ⟨i9, hi0, hz0, hzz1, hz20⟩ := info_parts int_infoN
        have HI := Lib.hid (And.intro hi0 (And.intro hz0 (And.intro hzz1 hz20)))
        clear hi0 hz0 hzz1 hz20
        go_upto_region 7 with (fail)
        have hgl2 : g2 < wr.heap.size := by
          obtain ⟨_, _, h, _⟩ := HS.out.2.2.1
          exact lt_of_blk h
        obtain ⟨Z, hZ⟩ : ∃ Z, wr.heap.size = Z := ⟨_, rfl⟩
        have HZ := Lib.hid hZ
        have HGZ : Hid (∀ W, GZ Z wr.drew W → Below wr.drew.heap.size wr.drew W) := fun W h => by have := h.2 (by show Z ≤ wr.heap.size; omega); rw [← hZ] at this; exact this
        have hgZ : g2 < Z := by omega
        clear hZ
        refine Rg.rgS2 5 (GZ Z) (fun a b => Below a.heap.size a b) (SA Z l.length (l.map (Value.int .i64)))
          [(fun vs u => vs 0 = .func (.func 68) #[] #[.pointer (some ⟨g1, 0, none⟩), .pointer (some ⟨g2, 0, none⟩), .pointer (some ⟨g3, 0, none⟩), .pointer (some ⟨g4, 0, none⟩), .pointer (some ⟨g5, 0, none⟩), .pointer (some ⟨g6, 0, none⟩)]), (fun vs u => vs 1 = .slice A l.length c), (fun vs u => ∃ v : Value, vs 2 = v ∧ u.ownsRow Z 3 1 v l.length (l.map (Value.int .i64)) ∧ (l.length = 0 → v = .slice none 0 0)), (fun vs u => vs 3 = .int .i64 k), (fun vs u => ∃ q : Nat, vs 4 = .slice (some ⟨q, 0, none⟩) 1 1 ∧ u.heap[q]? = some (.cells #[.int .i64 k] 3 (0, 0))), (fun vs u => ∃ v : Value, vs 5 = v ∧ u.ownsRow Z 3 1 v (l.length + 1) (l.map (Value.int .i64) ++ [.int .i64 k]))]
          [[], [], [1], [], [3], [1, 2, 3, 4]] [some 47, some 48, some 49, some 50, some 51, some 52, some 53] [] (fun _ _ => True) [[], [], [1], [], [3], [1, 2, 3, 4], [0, 1, 2, 3, 4, 5]]
          (by kernel_rfl) (by decide) (by kernel_rfl) (by kernel_rfl) (by kernel_rfl) (by kernel_rfl) (by kernel_rfl) (fun _ => GZ.refl _ _) (fun _ _ _ h k => GZ.trans h k) (fun _ _ h => h.1) (fun _ _ h => GZ.of_below h) (fun _ _ h => GZ.of_SA h) ?_ ?_ trivial ?_ ?_
        · intro j vs w w' h hE
          match j, h with
          | 0, h => exact h
          | 1, h => exact h
          | 2, h =>
            have h : ∃ v : Value, vs 2 = v ∧ w.ownsRow Z 3 1 v l.length (l.map (Value.int .i64)) ∧ (l.length = 0 → v = .slice none 0 0) := h
            show ∃ v : Value, vs 2 = v ∧ w'.ownsRow Z 3 1 v l.length (l.map (Value.int .i64)) ∧ (l.length = 0 → v = .slice none 0 0)
            obtain ⟨v, e, k, n⟩ := h
            exact ⟨v, e, own_below k hE, n⟩
          | 3, h => exact h
          | 4, h =>
            have h : ∃ q : Nat, vs 4 = .slice (some ⟨q, 0, none⟩) 1 1 ∧ w.heap[q]? = some (.cells #[.int .i64 k] 3 (0, 0)) := h
            show ∃ q : Nat, vs 4 = .slice (some ⟨q, 0, none⟩) 1 1 ∧ w'.heap[q]? = some (.cells #[.int .i64 k] 3 (0, 0))
            obtain ⟨q, e, k⟩ := h
            exact ⟨q, e, blk_below hE k⟩
          | 5, h =>
            have h : ∃ v : Value, vs 5 = v ∧ w.ownsRow Z 3 1 v (l.length + 1) (l.map (Value.int .i64) ++ [.int .i64 k]) := h
            show ∃ v : Value, vs 5 = v ∧ w'.ownsRow Z 3 1 v (l.length + 1) (l.map (Value.int .i64) ++ [.int .i64 k])
            obtain ⟨v, e, k⟩ := h
            exact ⟨v, e, own_below k hE⟩
          | (j + 6), h => exact h
        · intro j hj hc vs w w' h hE
          match j, hj, hc, h with
          | 0, _, _, h => exact h
          | 1, _, _, h => exact h
          | 2, _, _, h =>
            have h : ∃ v : Value, vs 2 = v ∧ w.ownsRow Z 3 1 v l.length (l.map (Value.int .i64)) ∧ (l.length = 0 → v = .slice none 0 0) := h
            show ∃ v : Value, vs 2 = v ∧ w'.ownsRow Z 3 1 v l.length (l.map (Value.int .i64)) ∧ (l.length = 0 → v = .slice none 0 0)
            obtain ⟨v, e, k, n⟩ := h
            exact ⟨v, e, hE.2.2 v k, n⟩
          | 3, _, _, h => exact h
          | 4, _, _, h =>
            have h : ∃ q : Nat, vs 4 = .slice (some ⟨q, 0, none⟩) 1 1 ∧ w.heap[q]? = some (.cells #[.int .i64 k] 3 (0, 0)) := h
            show ∃ q : Nat, vs 4 = .slice (some ⟨q, 0, none⟩) 1 1 ∧ w'.heap[q]? = some (.cells #[.int .i64 k] 3 (0, 0))
            obtain ⟨q, e, k⟩ := h
            exact ⟨q, e, hE.2.1 q _ k⟩
          | 5, hj, _, _ => exact absurd rfl hj
          | (j + 6), _, _, h => exact h
        ·
          refine Rg.cons 0 1 rfl (Rg.plain rfl ?_) ?_
          · intro vs W n hn hI hG hT hF K hK
            simp only [Rg.putsD, List.getD_cons_zero, List.getD_cons_succ, Act.put, List.setIfInBounds_toArray, List.set_cons_zero, List.set_cons_succ] at hK ⊢
            clear hn
            clear hF
            have c0 := cell_of_blk (blk_below (HGZ.out W hG) HS.out.1.k6) 0
            have lc0 := lt_of_blk (blk_below (HGZ.out W hG) HS.out.1.k6)
            simp [tryF] at c0
            have H := Lib.hid hK
            clear hK hT
            go_simp
            exact H.out _ _ (Below.refl _ _) rfl (fun h => by cases h) hI
          refine Rg.cons 1 2 rfl (Rg.plain rfl ?_) ?_
          · intro vs W n hn hI hG hT hF K hK
            simp only [Rg.putsD, List.getD_cons_zero, List.getD_cons_succ, Act.put, List.setIfInBounds_toArray, List.set_cons_zero, List.set_cons_succ] at hK ⊢
            clear hn
            clear hF
            have H := Lib.hid hK
            clear hK hT
            go_simp
            exact H.out _ _ (Below.refl _ _) rfl (fun h => by cases h) hI
          refine Rg.cons 2 3 rfl (Rg.plain rfl ?_) ?_
          · intro vs W n hn hI hG hT hF K hK
            simp only [Rg.putsD, List.getD_cons_zero, List.getD_cons_succ, Act.put, List.setIfInBounds_toArray, List.set_cons_zero, List.set_cons_succ] at hK ⊢
            clear hn
            clear hF
            have t1 : vs 1 = .slice A l.length c := hT 1 (by decide)
            have HG := Lib.hid hG
            clear hG
            simp only [t1] at hK
            have H := Lib.hid hK
            clear hK hT
            go_simp
            refine (CC.out _ (HR1.out.below ((Below.refl _ _).drew.then_below (HGZ.out W HG.out) (Nat.le_refl _))).reads).mono ?_
            rintro e w6 ⟨v9, rfl, o9, n9, b6⟩
            exact H.out _ _ b6 ⟨_, rfl, own_mono o9 (by have := HG.out.1; have h3 : wr.drew.heap.size = wr.heap.size := rfl; have := HZ.out; omega), n9⟩ (fun h => by cases h) trivial
          refine Rg.cons 3 4 rfl (Rg.plain rfl ?_) ?_
          · intro vs W n hn hI hG hT hF K hK
            simp only [Rg.putsD, List.getD_cons_zero, List.getD_cons_succ, Act.put, List.setIfInBounds_toArray, List.set_cons_zero, List.set_cons_succ] at hK ⊢
            clear hn
            clear hF
            have H := Lib.hid hK
            clear hK hT
            go_simp
            exact H.out _ _ (Below.refl _ _) rfl (fun h => by cases h) hI
          refine Rg.cons 4 5 rfl (Rg.plain rfl ?_) ?_
          · intro vs W n hn hI hG hT hF K hK
            simp only [Rg.putsD, List.getD_cons_zero, List.getD_cons_succ, Act.put, List.setIfInBounds_toArray, List.set_cons_zero, List.set_cons_succ] at hK ⊢
            clear hn
            clear hF
            have t3 : vs 3 = .int .i64 k := hT 3 (by decide)
            simp only [t3] at hK
            have H := Lib.hid hK
            clear hK hT
            go_simp
            exact H.out _ _ ((Below.refl _ _).alloc (Nat.le_refl _) _) (show ∃ q : Nat, _ = _ ∧ _ = _ from ⟨_, rfl, blk_new W _ rfl⟩) (fun h => by cases h) trivial
          refine Rg.cons 5 6 rfl (Rg.plain rfl ?_) ?_
          · intro vs W n hn hI hG hT hF K hK
            simp only [Rg.putsD, List.getD_cons_zero, List.getD_cons_succ, Act.put, List.setIfInBounds_toArray, List.set_cons_zero, List.set_cons_succ] at hK ⊢
            clear hn
            clear hF
            have t1 : vs 1 = .slice A l.length c := hT 1 (by decide)
            have t2 : ∃ v : Value, vs 2 = v ∧ W.ownsRow Z 3 1 v l.length (l.map (Value.int .i64)) ∧ (l.length = 0 → v = .slice none 0 0) := hT 2 (by decide)
            have t3 : vs 3 = .int .i64 k := hT 3 (by decide)
            have t4 : ∃ q : Nat, vs 4 = .slice (some ⟨q, 0, none⟩) 1 1 ∧ W.heap[q]? = some (.cells #[.int .i64 k] 3 (0, 0)) := hT 4 (by decide)
            obtain ⟨v2, e2, o2, n2⟩ := t2
            obtain ⟨q4, e4, k4⟩ := t4
            simp only [e2, e4] at hK
            have hZW : Z ≤ W.heap.size := by have := hG.1; have h3 : wr.drew.heap.size = wr.heap.size := rfl; have := HZ.out; omega
            simp only [t1, t3] at hK
            have H := Lib.hid hK
            clear hK hT
            simp only [t1, t3, e2, e4]
            refine wp_append_keep _ _ _ 22 rfl Z 3 i9 _ 1 8 Try.underlying22 HI.out.1 HI.out.2.1 HI.out.2.2.1 HI.out.2.2.2 rfl (by omega) v2 l.length (l.map (Value.int .i64)) rfl o2 ⟨q4, 0, none⟩ 1 1 [.int .i64 k] rfl rfl (fun j u hu => by rw [addr_new, cell_of_blk k4]; simpa using hu) (by intro u hu; simp at hu; subst hu; rfl) (by unfold maxLen; omega) (by omega) hZW ?_
            intro v' w2 hown' hg' hk'
            exact H.out _ _ (SA.append hZW o2 hk' hg' n2) ⟨_, rfl, hown'⟩ (fun h => by cases h) trivial
          exact Rg.nil
        · intro vs W hG hI hT hF
          have t0 : vs 0 = .func (.func 68) #[] #[.pointer (some ⟨g1, 0, none⟩), .pointer (some ⟨g2, 0, none⟩), .pointer (some ⟨g3, 0, none⟩), .pointer (some ⟨g4, 0, none⟩), .pointer (some ⟨g5, 0, none⟩), .pointer (some ⟨g6, 0, none⟩)] := hT 0 (by decide)
          have t1 : vs 1 = .slice A l.length c := hT 1 (by decide)
          have t2 : ∃ v : Value, vs 2 = v ∧ W.ownsRow Z 3 1 v l.length (l.map (Value.int .i64)) ∧ (l.length = 0 → v = .slice none 0 0) := hT 2 (by decide)
          have t3 : vs 3 = .int .i64 k := hT 3 (by decide)
          have t4 : ∃ q : Nat, vs 4 = .slice (some ⟨q, 0, none⟩) 1 1 ∧ W.heap[q]? = some (.cells #[.int .i64 k] 3 (0, 0)) := hT 4 (by decide)
          have t5 : ∃ v : Value, vs 5 = v ∧ W.ownsRow Z 3 1 v (l.length + 1) (l.map (Value.int .i64) ++ [.int .i64 k]) := hT 5 (by decide)
          simp only [List.length_cons, List.length_nil, Nat.reduceAdd, List.range, List.range.loop, List.drop_succ_cons, List.drop_zero, Rg.putsD, List.getD_cons_zero, List.getD_cons_succ, Act.put, List.setIfInBounds_toArray, List.set_cons_zero, List.set_cons_succ, t0, t1, t3]
          clear hT t0 t1 t3
          obtain ⟨v5, e5, o5⟩ := t5
          obtain ⟨A5, c5, rfl, h5⟩ := own_form o5
          have HGW : Hid (Below wr.heap.size wr W) := (Below.refl _ _).drew.then_below (HGZ.out W hG) (Nat.le_refl _)
          have HE4 := Lib.hid (HS.out.1.below HGW.out)
          have HB4 := Lib.hid (HS.out.2.2.1.below HGW.out)
          have HK4 : Hid (Kept g2 W0 W) := HS.out.2.1.then_ (Kept.of_below HGW.out)
          have hlo : (l ++ [(k : Int)]).length = l.length + 1 := by rw [List.length_append]; rfl
          have hR5 : ReadsX g2 (.slice A5 (l ++ [(k : Int)]).length c5) (l ++ [(k : Int)]) W := readsX_old (B := Z) (readsF_own (by rw [flatN_map, hlo, List.map_append]; exact o5)) hgZ
          have CI := IH.out (l ++ [(k : Int)]) A5 c5 B W (by have := HLN.out.1; rw [hlo]; omega) (by
            intro x hx
            rcases List.mem_append.mp hx with h | h
            · exact HX.out x h
            · have : x = (k : Int) := by simpa using h
              omega) (fun h => by rw [hlo] at h; omega) HE4.out hR5 HB4.out HST.out
          rw [hlo] at CI
          have CI1 := Lib.hid CI
          simp only [e5]
          clear hF hI hG o5 h5 IH CC CI t2 t4 e5 HGZ HZ hR5 hlo
          go_wp2_with fail
          refine CI1.out.mono ?_
          rintro e w5 ⟨rfl, hk5, hb5⟩
          have H5 : Hid (EE cs m n most (lv cs (List.replicate n 0) (m - 1) (cs.length - 1)) v1 g1 g2 g3 g4 g5 g6 hc hbd w5 ∧ Kept g2 W0 w5 ∧ BB g2 (List.replicate n 0) w5 ∧ (k + 1 = 0 → Stand n most (List.replicate n 0) l) ∧ (0 < k + 1 → (List.replicate n 0 : List Int) = List.replicate n 0)) :=
            ⟨HE4.out.kept hk5, HK4.out.then_ hk5, hb5, fun h => by omega, fun _ => rfl⟩
          clear hk5 hb5 HE4 HB4 HK4 CI1
          go_wp2_with fail
          go_roundw
          case rel => exact ⟨k + 1, List.replicate n 0, by omega, by go_num, H5.out.1, H5.out.2.1, H5.out.2.2.1, fun h => by omega, fun _ => rfl⟩
          case measure => simp [intOf]; omega
      · obtain rfl : k = most + 1 := by omega
        have hF := HS.out.2.2.2.2 (by omega)
        subst hF
        go_wp2_with fail
        refine bodyPost_end (v := .tuple #[]) (by unfold results; simp only [Try.results68]; go_simp) rfl ⟨rfl, HS.out.2.1, HS.out.2.2.1⟩
end Go.Proofs.Ytiooimfkobjpkaa
