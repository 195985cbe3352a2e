/-
  Nearest: the reference's walk.
-/
import Derived.Test.YtbkbjljkfhahbaaTqN
namespace Go.Proofs.Ytbkbjljkfhahbaa
open Go.RowKit
set_option linter.unusedSimpArgs false
set_option linter.unusedVariables false

def selR (st : Option (Nat × Int)) : Int := match st with | none => -1 | some (b, _) => b
/-- Whether the next one is taken. -/
def selB (c : Bool) (ap : Int) (st : Option (Nat × Int)) : Bool := !c && (match st with | none => true | some (_, m) => decide (ap < m))
theorem selStep_B (l : List (Int × Int)) (acc : List Int) (a : Int × Int) (st : Option (Nat × Int)) (j : Nat) : selStep l acc a st j = if selB (acc.contains (j : Int)) (apart a (ptAt l j)) st = true then some (j, apart a (ptAt l j)) else st := by
  unfold selStep selB
  cases acc.contains (j : Int)
  · cases st with
    | none => simp
    | some p => simp
  · simp

set_option maxRecDepth 100000 in
set_option maxHeartbeats 16000000 in
theorem nearRef_any (s : Int × Int) (l : List (Int × Int)) (hs : okPt s = true) (hl : ∀ p ∈ l, okPt p = true) (hln : l.length ≤ 1000) {pv : Value} (w : World) (h1 : Reads encP pv l w) :
    Calls Try.prog 19 #[.agg #[.int .i64 s.1, .int .i64 s.2], pv] w fun e w' => ∃ v, e = .returned (.tuple #[v, .int .i64 (lenOf s l (nearL s l))]) ∧ w'.ownsRow w.heap.size 3 1 v l.length ((nearL s l).map (Value.int .i64)) ∧ Below w.heap.size w w' := by
  have HR := Lib.hid h1
  have HL := Lib.hid hl
  have HSP := Lib.hid hs
  have CD := Lib.hid (fun a b ha hb W => apart_any a b ha hb W)
  have HAO := Lib.hid (fun o => atOf_ok (s := s) hs hl o)
  have CL := Lib.hid (fun (W : World) (v : Value) (h1 : Reads encP pv l W) (h2 : Reads encN v (nearL s l) W) => lengthOf_any s l (nearL s l) hs hl hln (by unfold nearL; rw [nearK_len]; omega) (nearK_rng s l l.length (Nat.le_refl _)) W h1 h2)
  have HNLL : Hid ((nearL s l).length = l.length) := nearK_len _ _ _
  obtain ⟨Ap, cp, rfl, _⟩ := h1
  clear hl hs
  obtain ⟨s1, s2⟩ := s
  dsimp only at CL ⊢
  have H0 : Hid (Below w.heap.size w ((w.alloc (.cells #[.int .i64 s1, .int .i64 s2] 27)).alloc (.cells #[.int .i64 s1, .int .i64 s2] 27)) ∧
      ((w.alloc (.cells #[.int .i64 s1, .int .i64 s2] 27)).alloc (.cells #[.int .i64 s1, .int .i64 s2] 27)).heap[w.heap.size]? = some (.cells #[.int .i64 s1, .int .i64 s2] 27 (0, 0)) ∧
      ((w.alloc (.cells #[.int .i64 s1, .int .i64 s2] 27)).alloc (.cells #[.int .i64 s1, .int .i64 s2] 27)).heap[w.heap.size + 1]? = some (.cells #[.int .i64 (atOf (s1, s2) l (nearK (s1, s2) l 0)).1, .int .i64 (atOf (s1, s2) l (nearK (s1, s2) l 0)).2] 27 (0, 0)) ∧
      ((w.alloc (.cells #[.int .i64 s1, .int .i64 s2] 27)).alloc (.cells #[.int .i64 s1, .int .i64 s2] 27)).ownsRow (w.heap.size + 2) 3 1 (.slice none 0 0) 0 ((nearK (s1, s2) l 0).map (Value.int .i64))) :=
    ⟨((Below.refl _ _).alloc (Nat.le_refl _) _).alloc (by simp) _, blk_alloc (blk_new w _ rfl) _, blk_new _ _ (by simp), World.ownsRow_nil _ _ _ _⟩
  go_enter Try.func19, Try.ntmps19
  go_upto_region 3 with (fail)
  generalize (w.alloc (.cells #[.int .i64 s1, .int .i64 s2] 27)).alloc (.cells #[.int .i64 s1, .int .i64 s2] 27) = wx at *
  have hzx := lt_of_blk H0.out.2.2.1
  go_loopw [6] (fun v6 wr => ∃ k : Nat, k ≤ l.length ∧ w.heap.size + 1 < wr.heap.size ∧ (∃ A6 c6, v6 = .slice A6 k c6) ∧ Hid (Below w.heap.size w wr ∧ wr.heap[w.heap.size]? = some (.cells #[.int .i64 s1, .int .i64 s2] 27 (0, 0)) ∧ wr.heap[w.heap.size + 1]? = some (.cells #[.int .i64 (atOf (s1, s2) l (nearK (s1, s2) l k)).1, .int .i64 (atOf (s1, s2) l (nearK (s1, s2) l k)).2] 27 (0, 0)) ∧ wr.ownsRow (w.heap.size + 2) 3 1 v6 k ((nearK (s1, s2) l k).map (Value.int .i64)))) (fun v6 _ => match v6 with | .slice _ n _ => l.length - n | _ => 0)
  case atStart => exact ⟨0, by omega, hzx, ⟨_, _, rfl⟩, H0.out.1, H0.out.2.1, H0.out.2.2.1, H0.out.2.2.2⟩
  case round =>
    obtain ⟨k, hk, hwz, ⟨A6, c6, rfl⟩, HS⟩ := hrel
    by_cases hlt : k < l.length
    · have hAO := HAO.out (nearK (s1, s2) l k)
      have HNX : Hid (nearK (s1, s2) l (k + 1) = nearK (s1, s2) l k ++ [(nextOf l (nearK (s1, s2) l k) (atOf (s1, s2) l (nearK (s1, s2) l k)) : Int)]) := rfl
      have HNL := Lib.hid (nearK_len (s1, s2) l k)
      have HAT : Hid (∀ x, atOf (s1, s2) l (nearK (s1, s2) l k ++ [x]) = ptAt l x) := fun x => atOf_snoc _ _ _ _
      have hnl := nextOf_lt (l := l) (acc := nearK (s1, s2) l k) (a := atOf (s1, s2) l (nearK (s1, s2) l k)) (by omega)
      have HLF := Lib.hid (sel_left (s1, s2) l k hlt)
      have HNE : Hid (∀ b d, sel l (nearK (s1, s2) l k) (atOf (s1, s2) l (nearK (s1, s2) l k)) l.length = some (b, d) → nextOf l (nearK (s1, s2) l k) (atOf (s1, s2) l (nearK (s1, s2) l k)) = b) := fun b d h => by unfold nextOf; rw [h]
      generalize nearK (s1, s2) l k = acc at *
      generalize atOf (s1, s2) l acc = a at *
      generalize nextOf l acc a = nx at *
      have HAOK := Lib.hid hAO
      obtain ⟨a1, a2⟩ := a
      have HK0 := Lib.hid (readsN_own' HS.out.2.2.2 HNL.out.symm)
      have i0 : (k : Int) < (l.length : Int) := by omega
      go_wp2_with fail
      obtain ⟨wo, rfl⟩ : ∃ wo : World, wo = wr := ⟨_, rfl⟩
      go_loopw [8, 19] (fun v8 kk wi => ∃ m : Nat, m ≤ l.length ∧ kk = .int .i64 m ∧ v8 = .int .i64 (selR (sel l acc (a1, a2) m)) ∧ wo.heap.size ≤ wi.heap.size ∧ Hid (Below wo.heap.size wo wi)) (fun _ kk _ => l.length - (intOf kk).toNat)
      case atStart => exact ⟨0, by omega, rfl, rfl, Nat.le_refl _, Below.refl _ _⟩
      case round =>
        obtain ⟨m, hm, rfl, rfl, hiz, HI⟩ := hrel
        have HIB : Hid (Below w.heap.size w wr) := HS.out.1.then_below HI.out HS.out.1.size
        by_cases hltm : m < l.length
        · obtain ⟨Ap', cp', ep, hrp⟩ := HR.out.below HIB.out
          cases ep
          rcases hrp with rfl | ⟨gp, rfl, hrowp⟩
          · simp at hltm
          obtain ⟨r0, r1⟩ := row_pt hrowp hltm
          have hgp := hrowp.1
          have HPO := Lib.hid (ptAt_ok HL.out (m : Int))
          have HSU : Hid (sel l acc (a1, a2) (m + 1) = if selB (acc.contains (m : Int)) (apart (a1, a2) (ptAt l m)) (sel l acc (a1, a2) m) = true then some (m, apart (a1, a2) (ptAt l m)) else sel l acc (a1, a2) m) := selStep_B l acc (a1, a2) _ m
          have HSS := Lib.hid (fun b d h => @sel_some l acc (a1, a2) m b d h)
          rw [ptAt_nat l hltm] at HPO HSU
          have HPT := Lib.hid (fun (b : Nat) (h : b < l.length) => ptAt_nat l h)
          have HROW := Lib.hid hrowp
          have HPQ := Lib.hid (fun (k : Int) => ptAt_ok HL.out k)
          generalize l[m] = p at *
          obtain ⟨x, y⟩ := p
          dsimp only at r0 r1
          have CD1 := Lib.hid (fun W => CD.out (a1, a2) (x, y) HAOK.out HPO.out W)
          obtain ⟨hap0, hap1⟩ := apart_bd HAOK.out HPO.out
          dsimp only at CD1
          generalize apart (a1, a2) (x, y) = ap at *
          have i1 : (0 : Int) ≤ (m : Int) := by omega
          have i2 : (m : Int) < (l.length : Int) := by omega
          have HJ : Hid (Below wo.heap.size wo (wr.alloc (.cells #[.int .i64 x, .int .i64 y] 27)) ∧ (wr.alloc (.cells #[.int .i64 x, .int .i64 y] 27)).heap[wr.heap.size]? = some (.cells #[.int .i64 x, .int .i64 y] 27 (0, 0)) ∧ LineAt (wr.alloc (.cells #[.int .i64 x, .int .i64 y] 27)) gp (l.flatMap encP)) := ⟨HI.out.alloc HI.out.size _, blk_new wr _ rfl, HROW.out.below ((Below.refl _ _).alloc (Nat.le_refl _) _)⟩
          clear hrowp HROW
          go_upto_region 8 with (fail)
          clear r0 r1
          generalize wr.alloc (.cells #[.int .i64 x, .int .i64 y] 27) = wj at *
          have hjz := HJ.out.1.size
          have hjl := lt_of_blk HJ.out.2.1
          have HA := Lib.hid (blk_below HJ.out.1 HS.out.2.2.1)
          have hal := lt_of_blk HA.out
          have HRD := Lib.hid (HK0.out.below HJ.out.1)
          have CK := Lib.hid (fun (W : World) (h : Reads encN (.slice A6 k c6) acc W) => by
            have := containsN_any acc (by have := HNL.out; omega) acc.length (Nat.le_refl _) (m : Int) (A := A6) (c := c6) (c0 := c6) (w := W) (by rw [HNL.out]; exact h)
            rw [List.take_of_length_le (Nat.le_refl _), HNL.out] at this
            exact this)
          obtain ⟨N, hN⟩ : ∃ N, selR (sel l acc (a1, a2) m) = N := ⟨_, rfl⟩
          simp only [hN]
          have HRN := Lib.hid hN
          clear hN
          go_cut [43] (fun v43 wc => v43 = .bool (selB (acc.contains (m : Int)) ap (sel l acc (a1, a2) m)) ∧ Hid (Below wo.heap.size wo wc))
          case first =>
            clear HSU
            obtain ⟨st, hst⟩ : ∃ st, sel l acc (a1, a2) m = st := ⟨_, rfl⟩
            rw [hst] at HSS HRN
            have HST := Lib.hid hst
            clear hst
            cases hct : acc.contains (m : Int)
            rotate_left
            · rw [hct] at CK
              have HCT := Lib.hid hct
              clear hct
              refine Rg.rgL (fun a b => Below a.heap.size a b)
                [(fun vs u => vs 0 = .slice A6 k c6), (fun vs u => vs 1 = .int .i64 m), (fun vs u => vs 2 = .bool true), (fun vs u => vs 3 = .bool false), (fun vs u => vs 4 = .bool false), (fun vs u => vs 5 = undef), (fun vs u => vs 6 = undef), (fun vs u => vs 7 = undef), (fun vs u => vs 8 = undef), (fun vs u => vs 9 = undef), (fun vs u => vs 10 = undef), (fun vs u => vs 11 = undef), (fun vs u => vs 12 = undef), (fun vs u => vs 13 = undef), (fun vs u => vs 14 = undef), (fun vs u => vs 15 = undef)]
                [[], [], [0, 1], [0, 1, 2], [0, 1, 2, 3], [0, 1, 2, 3, 4], [0, 1, 2, 3, 4, 5], [0, 1, 2, 3, 4, 5, 6], [0, 1, 2, 3, 4, 5, 6, 7], [0, 1, 2, 3, 4, 5, 6, 7], [0, 1, 2, 3, 4, 5, 6, 7, 8, 9], [0, 1, 2, 3, 4, 5, 6, 7], [0, 1, 2, 3, 4, 5, 6, 7], [0, 1, 2, 3, 4, 5, 6, 7], [0, 1, 2, 3, 4, 5, 6, 7, 12, 13], [0, 1, 2, 3, 4, 5, 6, 7, 12, 13, 14]] [some 24, some 25, some 26, some 27, some 28, some 29, some 30, some 31, some 32, some 33, some 34, some 35, some 36, some 37, some 38, some 39, some 40, some 41, some 42, some 43] [] (fun _ _ => True) [[], [], [0, 1], [0, 1, 2], [0, 1, 2, 3], [0, 1, 2, 3, 4], [0, 1, 2, 3, 4, 5], [0, 1, 2, 3, 4, 5, 6], [0, 1, 2, 3, 4, 5, 6, 7], [0, 1, 2, 3, 4, 5, 6, 7], [0, 1, 2, 3, 4, 5, 6, 7, 8, 9], [0, 1, 2, 3, 4, 5, 6, 7], [0, 1, 2, 3, 4, 5, 6, 7], [0, 1, 2, 3, 4, 5, 6, 7], [0, 1, 2, 3, 4, 5, 6, 7, 12, 13], [0, 1, 2, 3, 4, 5, 6, 7, 12, 13, 14], [0, 1, 2, 3, 4, 5, 6, 7, 8, 9, 10, 11, 12, 13, 14, 15], [0, 1, 2, 3, 4, 5, 6, 7, 8, 9, 10, 11, 12, 13, 14, 15, 16], [0, 1, 2, 3, 4, 5, 6, 7, 8, 9, 10, 11, 12, 13, 14, 15, 16, 17], [0, 1, 2, 3, 4, 5, 6, 7, 8, 9, 10, 11, 12, 13, 14, 15, 16, 17, 18]]
                (by kernel_rfl) (by decide) (by kernel_rfl) (by kernel_rfl) (by kernel_rfl) (by kernel_rfl) (by kernel_rfl) (fun _ => Below.refl _ _) (fun _ _ _ h k => h.ext k) (fun _ _ h => h.size) ?_ trivial ?_ ?_
              · intro t ht vs w w' h hE
                simp only [List.mem_cons, List.not_mem_nil, or_false] at ht
                rcases ht with rfl | rfl | rfl | rfl | rfl | rfl | rfl | rfl | rfl | rfl | rfl | rfl | rfl | rfl | rfl | rfl
                · exact h
                · exact h
                · exact h
                · exact h
                · exact h
                · exact h
                · exact h
                · exact h
                · exact h
                · exact h
                · exact h
                · exact h
                · exact h
                · exact h
                · exact h
                · exact h
              ·
                refine Rg.cons 0 1 rfl (Rg.plain rfl ?_) ?_
                · intro vs W n hn hI hG hT hF K hK
                  simp only [Rg.putsD, List.getD_cons_zero, List.getD_cons_succ, Act.put, List.setIfInBounds_toArray, List.set_cons_zero, List.set_cons_succ] at hK ⊢
                  clear hn
                  clear hF hI
                  have H := Lib.hid hK
                  clear hK hT
                  go_simp
                  exact H.out _ _ (Below.refl _ _) rfl (fun h => by cases h) trivial
                refine Rg.cons 1 2 rfl (Rg.plain rfl ?_) ?_
                · intro vs W n hn hI hG hT hF K hK
                  simp only [Rg.putsD, List.getD_cons_zero, List.getD_cons_succ, Act.put, List.setIfInBounds_toArray, List.set_cons_zero, List.set_cons_succ] at hK ⊢
                  clear hn
                  clear hF hI
                  have H := Lib.hid hK
                  clear hK hT
                  go_simp
                  exact H.out _ _ (Below.refl _ _) rfl (fun h => by cases h) trivial
                refine Rg.cons 2 3 rfl (Rg.plain rfl ?_) ?_
                · intro vs W n hn hI hG hT hF K hK
                  simp only [Rg.putsD, List.getD_cons_zero, List.getD_cons_succ, Act.put, List.setIfInBounds_toArray, List.set_cons_zero, List.set_cons_succ] at hK ⊢
                  clear hn
                  clear hF hI
                  have t0 : vs 0 = .slice A6 k c6 := hT 0 (by decide)
                  have t1 : vs 1 = .int .i64 m := hT 1 (by decide)
                  have HG := Lib.hid hG
                  clear hG
                  simp only [t0, t1] at hK
                  have H := Lib.hid hK
                  clear hK hT
                  go_simp
                  refine (CK.out _ (Reads.below (w := wj.drew) HRD.out HG.out)).mono ?_
                  rintro e w6 ⟨rfl, rfl⟩
                  exact H.out _ _ (Below.refl _ _) rfl (fun h => by cases h) trivial
                refine Rg.cons 3 4 rfl (Rg.plain rfl ?_) ?_
                · intro vs W n hn hI hG hT hF K hK
                  simp only [Rg.putsD, List.getD_cons_zero, List.getD_cons_succ, Act.put, List.setIfInBounds_toArray, List.set_cons_zero, List.set_cons_succ] at hK ⊢
                  clear hn
                  clear hF hI
                  have t0 : vs 0 = .slice A6 k c6 := hT 0 (by decide)
                  have t1 : vs 1 = .int .i64 m := hT 1 (by decide)
                  have t2 : vs 2 = .bool true := hT 2 (by decide)
                  simp only [t0, t1, t2] at hK
                  have H := Lib.hid hK
                  clear hK hT
                  go_simp
                  exact H.out _ _ (Below.refl _ _) rfl (fun h => by cases h) trivial
                refine Rg.cons 4 5 rfl (Rg.plain rfl ?_) ?_
                · intro vs W n hn hI hG hT hF K hK
                  simp only [Rg.putsD, List.getD_cons_zero, List.getD_cons_succ, Act.put, List.setIfInBounds_toArray, List.set_cons_zero, List.set_cons_succ] at hK ⊢
                  clear hn
                  clear hF hI
                  have t0 : vs 0 = .slice A6 k c6 := hT 0 (by decide)
                  have t1 : vs 1 = .int .i64 m := hT 1 (by decide)
                  have t2 : vs 2 = .bool true := hT 2 (by decide)
                  have t3 : vs 3 = .bool false := hT 3 (by decide)
                  simp only [t0, t1, t2, t3] at hK
                  have H := Lib.hid hK
                  clear hK hT
                  go_simp
                  exact H.out _ _ (Below.refl _ _) rfl (fun h => by cases h) trivial
                refine Rg.cons 5 6 rfl (Rg.skipped (fun _ => Below.refl _ _) (fun _ _ => rfl) (by decide) (fun _ _ h => h) ?_) ?_
                · intro vs W hT
                  have tg : vs 4 = .bool false := hT 4 (by decide)
                  simp only [Rg.putsD, List.getD_cons_zero, List.getD_cons_succ, Act.put, List.setIfInBounds_toArray, List.set_cons_zero, List.set_cons_succ, tg]
                  rfl
                refine Rg.cons 6 7 rfl (Rg.skipped (fun _ => Below.refl _ _) (fun _ _ => rfl) (by decide) (fun _ _ h => h) ?_) ?_
                · intro vs W hT
                  have tg : vs 4 = .bool false := hT 4 (by decide)
                  simp only [Rg.putsD, List.getD_cons_zero, List.getD_cons_succ, Act.put, List.setIfInBounds_toArray, List.set_cons_zero, List.set_cons_succ, tg]
                  rfl
                refine Rg.cons 7 8 rfl (Rg.skipped (fun _ => Below.refl _ _) (fun _ _ => rfl) (by decide) (fun _ _ h => h) ?_) ?_
                · intro vs W hT
                  have tg : vs 4 = .bool false := hT 4 (by decide)
                  simp only [Rg.putsD, List.getD_cons_zero, List.getD_cons_succ, Act.put, List.setIfInBounds_toArray, List.set_cons_zero, List.set_cons_succ, tg]
                  rfl
                refine Rg.cons 8 9 rfl (Rg.skipped (fun _ => Below.refl _ _) (fun _ _ => rfl) (by decide) (fun _ _ h => h) ?_) ?_
                · intro vs W hT
                  have tg : vs 7 = undef := hT 7 (by decide)
                  simp only [Rg.putsD, List.getD_cons_zero, List.getD_cons_succ, Act.put, List.setIfInBounds_toArray, List.set_cons_zero, List.set_cons_succ, tg]
                  rfl
                refine Rg.cons 9 10 rfl (Rg.skipped (fun _ => Below.refl _ _) (fun _ _ => rfl) (by decide) (fun _ _ h => h) ?_) ?_
                · intro vs W hT
                  have tg : vs 7 = undef := hT 7 (by decide)
                  simp only [Rg.putsD, List.getD_cons_zero, List.getD_cons_succ, Act.put, List.setIfInBounds_toArray, List.set_cons_zero, List.set_cons_succ, tg]
                  rfl
                refine Rg.cons 10 11 rfl (Rg.skipped (fun _ => Below.refl _ _) (fun _ _ => rfl) (by decide) (fun _ _ h => h) ?_) ?_
                · intro vs W hT
                  have tg : vs 7 = undef := hT 7 (by decide)
                  simp only [Rg.putsD, List.getD_cons_zero, List.getD_cons_succ, Act.put, List.setIfInBounds_toArray, List.set_cons_zero, List.set_cons_succ, tg]
                  rfl
                refine Rg.cons 11 12 rfl (Rg.skipped (fun _ => Below.refl _ _) (fun _ _ => rfl) (by decide) (fun _ _ h => h) ?_) ?_
                · intro vs W hT
                  have tg : vs 7 = undef := hT 7 (by decide)
                  simp only [Rg.putsD, List.getD_cons_zero, List.getD_cons_succ, Act.put, List.setIfInBounds_toArray, List.set_cons_zero, List.set_cons_succ, tg]
                  rfl
                refine Rg.cons 12 13 rfl (Rg.skipped (fun _ => Below.refl _ _) (fun _ _ => rfl) (by decide) (fun _ _ h => h) ?_) ?_
                · intro vs W hT
                  have tg : vs 7 = undef := hT 7 (by decide)
                  simp only [Rg.putsD, List.getD_cons_zero, List.getD_cons_succ, Act.put, List.setIfInBounds_toArray, List.set_cons_zero, List.set_cons_succ, tg]
                  rfl
                refine Rg.cons 13 14 rfl (Rg.skipped (fun _ => Below.refl _ _) (fun _ _ => rfl) (by decide) (fun _ _ h => h) ?_) ?_
                · intro vs W hT
                  have tg : vs 7 = undef := hT 7 (by decide)
                  simp only [Rg.putsD, List.getD_cons_zero, List.getD_cons_succ, Act.put, List.setIfInBounds_toArray, List.set_cons_zero, List.set_cons_succ, tg]
                  rfl
                refine Rg.cons 14 15 rfl (Rg.skipped (fun _ => Below.refl _ _) (fun _ _ => rfl) (by decide) (fun _ _ h => h) ?_) ?_
                · intro vs W hT
                  have tg : vs 7 = undef := hT 7 (by decide)
                  simp only [Rg.putsD, List.getD_cons_zero, List.getD_cons_succ, Act.put, List.setIfInBounds_toArray, List.set_cons_zero, List.set_cons_succ, tg]
                  rfl
                refine Rg.cons 15 16 rfl (Rg.skipped (fun _ => Below.refl _ _) (fun _ _ => rfl) (by decide) (fun _ _ h => h) ?_) ?_
                · intro vs W hT
                  have tg : vs 7 = undef := hT 7 (by decide)
                  simp only [Rg.putsD, List.getD_cons_zero, List.getD_cons_succ, Act.put, List.setIfInBounds_toArray, List.set_cons_zero, List.set_cons_succ, tg]
                  rfl
                exact Rg.nil
              · intro vs W hG hI hT hF
                have t0 : vs 0 = .slice A6 k c6 := hT 0 (by decide)
                have t1 : vs 1 = .int .i64 m := hT 1 (by decide)
                have t2 : vs 2 = .bool true := hT 2 (by decide)
                have t3 : vs 3 = .bool false := hT 3 (by decide)
                have t4 : vs 4 = .bool false := hT 4 (by decide)
                have t5 : vs 5 = undef := hT 5 (by decide)
                have t6 : vs 6 = undef := hT 6 (by decide)
                have t7 : vs 7 = undef := hT 7 (by decide)
                have t8 : vs 8 = undef := hT 8 (by decide)
                have t9 : vs 9 = undef := hT 9 (by decide)
                have t10 : vs 10 = undef := hT 10 (by decide)
                have t11 : vs 11 = undef := hT 11 (by decide)
                have t12 : vs 12 = undef := hT 12 (by decide)
                have t13 : vs 13 = undef := hT 13 (by decide)
                have t14 : vs 14 = undef := hT 14 (by decide)
                have t15 : vs 15 = undef := hT 15 (by decide)
                simp only [List.length_cons, List.length_nil, Nat.reduceAdd, List.range, List.range.loop, List.drop_succ_cons, List.drop_zero, Rg.putsD, List.getD_cons_zero, List.getD_cons_succ, Act.put, List.setIfInBounds_toArray, List.set_cons_zero, List.set_cons_succ, t0, t1, t2, t3, t4, t5, t6, t7, t8, t9, t10, t11, t12, t13, t14, t15]
                clear hT t0 t1 t2 t3 t4 t5 t6 t7 t8 t9 t10 t11 t12 t13 t14 t15
                have H9 := Lib.hid (HJ.out.1.drew.then_below hG hjz)
                clear hF hI hG
                go_wp2_with fail
                go_meet
                exact ⟨by rw [HST.out, HCT.out]; rfl, H9⟩
            · rw [hct] at CK
              have HCT := Lib.hid hct
              clear hct
              cases st with
              | none =>
                obtain rfl : N = -1 := HRN.out.symm
                refine Rg.rgL (fun a b => Below a.heap.size a b)
                  [(fun vs u => vs 0 = .slice A6 k c6), (fun vs u => vs 1 = .int .i64 m), (fun vs u => vs 2 = .bool false), (fun vs u => vs 3 = .bool true), (fun vs u => vs 4 = .bool true), (fun vs u => vs 5 = .int .i64 (-1)), (fun vs u => vs 6 = .bool true), (fun vs u => vs 7 = .bool true), (fun vs u => vs 8 = undef), (fun vs u => vs 9 = undef), (fun vs u => vs 10 = undef), (fun vs u => vs 11 = undef), (fun vs u => vs 12 = undef), (fun vs u => vs 13 = undef), (fun vs u => vs 14 = undef), (fun vs u => vs 15 = undef)]
                  [[], [], [0, 1], [0, 1, 2], [0, 1, 2, 3], [0, 1, 2, 3, 4], [0, 1, 2, 3, 4, 5], [0, 1, 2, 3, 4, 5, 6], [0, 1, 2, 3, 4, 5, 6, 7], [0, 1, 2, 3, 4, 5, 6, 7], [0, 1, 2, 3, 4, 5, 6, 7, 8, 9], [0, 1, 2, 3, 4, 5, 6, 7], [0, 1, 2, 3, 4, 5, 6, 7], [0, 1, 2, 3, 4, 5, 6, 7], [0, 1, 2, 3, 4, 5, 6, 7, 12, 13], [0, 1, 2, 3, 4, 5, 6, 7, 12, 13, 14]] [some 24, some 25, some 26, some 27, some 28, some 29, some 30, some 31, some 32, some 33, some 34, some 35, some 36, some 37, some 38, some 39, some 40, some 41, some 42, some 43] [] (fun _ _ => True) [[], [], [0, 1], [0, 1, 2], [0, 1, 2, 3], [0, 1, 2, 3, 4], [0, 1, 2, 3, 4, 5], [0, 1, 2, 3, 4, 5, 6], [0, 1, 2, 3, 4, 5, 6, 7], [0, 1, 2, 3, 4, 5, 6, 7], [0, 1, 2, 3, 4, 5, 6, 7, 8, 9], [0, 1, 2, 3, 4, 5, 6, 7], [0, 1, 2, 3, 4, 5, 6, 7], [0, 1, 2, 3, 4, 5, 6, 7], [0, 1, 2, 3, 4, 5, 6, 7, 12, 13], [0, 1, 2, 3, 4, 5, 6, 7, 12, 13, 14], [0, 1, 2, 3, 4, 5, 6, 7, 8, 9, 10, 11, 12, 13, 14, 15], [0, 1, 2, 3, 4, 5, 6, 7, 8, 9, 10, 11, 12, 13, 14, 15, 16], [0, 1, 2, 3, 4, 5, 6, 7, 8, 9, 10, 11, 12, 13, 14, 15, 16, 17], [0, 1, 2, 3, 4, 5, 6, 7, 8, 9, 10, 11, 12, 13, 14, 15, 16, 17, 18]]
                  (by kernel_rfl) (by decide) (by kernel_rfl) (by kernel_rfl) (by kernel_rfl) (by kernel_rfl) (by kernel_rfl) (fun _ => Below.refl _ _) (fun _ _ _ h k => h.ext k) (fun _ _ h => h.size) ?_ trivial ?_ ?_
                · intro t ht vs w w' h hE
                  simp only [List.mem_cons, List.not_mem_nil, or_false] at ht
                  rcases ht with rfl | rfl | rfl | rfl | rfl | rfl | rfl | rfl | rfl | rfl | rfl | rfl | rfl | rfl | rfl | rfl
                  · exact h
                  · exact h
                  · exact h
                  · exact h
                  · exact h
                  · exact h
                  · exact h
                  · exact h
                  · exact h
                  · exact h
                  · exact h
                  · exact h
                  · exact h
                  · exact h
                  · exact h
                  · exact h
                ·
                  refine Rg.cons 0 1 rfl (Rg.plain rfl ?_) ?_
                  · intro vs W n hn hI hG hT hF K hK
                    simp only [Rg.putsD, List.getD_cons_zero, List.getD_cons_succ, Act.put, List.setIfInBounds_toArray, List.set_cons_zero, List.set_cons_succ] at hK ⊢
                    clear hn
                    clear hF hI
                    have H := Lib.hid hK
                    clear hK hT
                    go_simp
                    exact H.out _ _ (Below.refl _ _) rfl (fun h => by cases h) trivial
                  refine Rg.cons 1 2 rfl (Rg.plain rfl ?_) ?_
                  · intro vs W n hn hI hG hT hF K hK
                    simp only [Rg.putsD, List.getD_cons_zero, List.getD_cons_succ, Act.put, List.setIfInBounds_toArray, List.set_cons_zero, List.set_cons_succ] at hK ⊢
                    clear hn
                    clear hF hI
                    have H := Lib.hid hK
                    clear hK hT
                    go_simp
                    exact H.out _ _ (Below.refl _ _) rfl (fun h => by cases h) trivial
                  refine Rg.cons 2 3 rfl (Rg.plain rfl ?_) ?_
                  · intro vs W n hn hI hG hT hF K hK
                    simp only [Rg.putsD, List.getD_cons_zero, List.getD_cons_succ, Act.put, List.setIfInBounds_toArray, List.set_cons_zero, List.set_cons_succ] at hK ⊢
                    clear hn
                    clear hF hI
                    have t0 : vs 0 = .slice A6 k c6 := hT 0 (by decide)
                    have t1 : vs 1 = .int .i64 m := hT 1 (by decide)
                    have HG := Lib.hid hG
                    clear hG
                    simp only [t0, t1] at hK
                    have H := Lib.hid hK
                    clear hK hT
                    go_simp
                    refine (CK.out _ (Reads.below (w := wj.drew) HRD.out HG.out)).mono ?_
                    rintro e w6 ⟨rfl, rfl⟩
                    exact H.out _ _ (Below.refl _ _) rfl (fun h => by cases h) trivial
                  refine Rg.cons 3 4 rfl (Rg.plain rfl ?_) ?_
                  · intro vs W n hn hI hG hT hF K hK
                    simp only [Rg.putsD, List.getD_cons_zero, List.getD_cons_succ, Act.put, List.setIfInBounds_toArray, List.set_cons_zero, List.set_cons_succ] at hK ⊢
                    clear hn
                    clear hF hI
                    have t0 : vs 0 = .slice A6 k c6 := hT 0 (by decide)
                    have t1 : vs 1 = .int .i64 m := hT 1 (by decide)
                    have t2 : vs 2 = .bool false := hT 2 (by decide)
                    simp only [t0, t1, t2] at hK
                    have H := Lib.hid hK
                    clear hK hT
                    go_simp
                    exact H.out _ _ (Below.refl _ _) rfl (fun h => by cases h) trivial
                  refine Rg.cons 4 5 rfl (Rg.plain rfl ?_) ?_
                  · intro vs W n hn hI hG hT hF K hK
                    simp only [Rg.putsD, List.getD_cons_zero, List.getD_cons_succ, Act.put, List.setIfInBounds_toArray, List.set_cons_zero, List.set_cons_succ] at hK ⊢
                    clear hn
                    clear hF hI
                    have t0 : vs 0 = .slice A6 k c6 := hT 0 (by decide)
                    have t1 : vs 1 = .int .i64 m := hT 1 (by decide)
                    have t2 : vs 2 = .bool false := hT 2 (by decide)
                    have t3 : vs 3 = .bool true := hT 3 (by decide)
                    simp only [t0, t1, t2, t3] at hK
                    have H := Lib.hid hK
                    clear hK hT
                    go_simp
                    exact H.out _ _ (Below.refl _ _) rfl (fun h => by cases h) trivial
                  refine Rg.cons 5 6 rfl (Rg.guarded ?_ ?_) ?_
                  · intro vs W hT
                    have tg : vs 4 = .bool true := hT 4 (by decide)
                    simp only [Rg.putsD, List.getD_cons_zero, List.getD_cons_succ, Act.put, List.setIfInBounds_toArray, List.set_cons_zero, List.set_cons_succ, tg]
                    rfl
                  · intro vs W n hn hI hG hT hF K hK
                    simp only [Rg.putsD, List.getD_cons_zero, List.getD_cons_succ, Act.put, List.setIfInBounds_toArray, List.set_cons_zero, List.set_cons_succ] at hK ⊢
                    clear hn
                    clear hF hI
                    have t0 : vs 0 = .slice A6 k c6 := hT 0 (by decide)
                    have t1 : vs 1 = .int .i64 m := hT 1 (by decide)
                    have t2 : vs 2 = .bool false := hT 2 (by decide)
                    have t3 : vs 3 = .bool true := hT 3 (by decide)
                    have t4 : vs 4 = .bool true := hT 4 (by decide)
                    simp only [t0, t1, t2, t3, t4] at hK
                    have H := Lib.hid hK
                    clear hK hT
                    go_simp
                    exact H.out _ _ (Below.refl _ _) rfl (fun h => by cases h) trivial
                  refine Rg.cons 6 7 rfl (Rg.guarded ?_ ?_) ?_
                  · intro vs W hT
                    have tg : vs 4 = .bool true := hT 4 (by decide)
                    simp only [Rg.putsD, List.getD_cons_zero, List.getD_cons_succ, Act.put, List.setIfInBounds_toArray, List.set_cons_zero, List.set_cons_succ, tg]
                    rfl
                  · intro vs W n hn hI hG hT hF K hK
                    simp only [Rg.putsD, List.getD_cons_zero, List.getD_cons_succ, Act.put, List.setIfInBounds_toArray, List.set_cons_zero, List.set_cons_succ] at hK ⊢
                    clear hn
                    clear hF hI
                    have t0 : vs 0 = .slice A6 k c6 := hT 0 (by decide)
                    have t1 : vs 1 = .int .i64 m := hT 1 (by decide)
                    have t2 : vs 2 = .bool false := hT 2 (by decide)
                    have t3 : vs 3 = .bool true := hT 3 (by decide)
                    have t4 : vs 4 = .bool true := hT 4 (by decide)
                    have t5 : vs 5 = .int .i64 (-1) := hT 5 (by decide)
                    simp only [t0, t1, t2, t3, t4, t5] at hK
                    have H := Lib.hid hK
                    clear hK hT
                    go_simp
                    exact H.out _ _ (Below.refl _ _) rfl (fun h => by cases h) trivial
                  refine Rg.cons 7 8 rfl (Rg.guarded ?_ ?_) ?_
                  · intro vs W hT
                    have tg : vs 4 = .bool true := hT 4 (by decide)
                    simp only [Rg.putsD, List.getD_cons_zero, List.getD_cons_succ, Act.put, List.setIfInBounds_toArray, List.set_cons_zero, List.set_cons_succ, tg]
                    rfl
                  · intro vs W n hn hI hG hT hF K hK
                    simp only [Rg.putsD, List.getD_cons_zero, List.getD_cons_succ, Act.put, List.setIfInBounds_toArray, List.set_cons_zero, List.set_cons_succ] at hK ⊢
                    clear hn
                    clear hF hI
                    have t0 : vs 0 = .slice A6 k c6 := hT 0 (by decide)
                    have t1 : vs 1 = .int .i64 m := hT 1 (by decide)
                    have t2 : vs 2 = .bool false := hT 2 (by decide)
                    have t3 : vs 3 = .bool true := hT 3 (by decide)
                    have t4 : vs 4 = .bool true := hT 4 (by decide)
                    have t5 : vs 5 = .int .i64 (-1) := hT 5 (by decide)
                    have t6 : vs 6 = .bool true := hT 6 (by decide)
                    simp only [t0, t1, t2, t3, t4, t5, t6] at hK
                    have H := Lib.hid hK
                    clear hK hT
                    go_simp
                    exact H.out _ _ (Below.refl _ _) rfl (fun h => by cases h) trivial
                  refine Rg.cons 8 9 rfl (Rg.skipped (fun _ => Below.refl _ _) (fun _ _ => rfl) (by decide) (fun _ _ h => h) ?_) ?_
                  · intro vs W hT
                    have tg : vs 7 = .bool true := hT 7 (by decide)
                    simp only [Rg.putsD, List.getD_cons_zero, List.getD_cons_succ, Act.put, List.setIfInBounds_toArray, List.set_cons_zero, List.set_cons_succ, tg]
                    rfl
                  refine Rg.cons 9 10 rfl (Rg.skipped (fun _ => Below.refl _ _) (fun _ _ => rfl) (by decide) (fun _ _ h => h) ?_) ?_
                  · intro vs W hT
                    have tg : vs 7 = .bool true := hT 7 (by decide)
                    simp only [Rg.putsD, List.getD_cons_zero, List.getD_cons_succ, Act.put, List.setIfInBounds_toArray, List.set_cons_zero, List.set_cons_succ, tg]
                    rfl
                  refine Rg.cons 10 11 rfl (Rg.skipped (fun _ => Below.refl _ _) (fun _ _ => rfl) (by decide) (fun _ _ h => h) ?_) ?_
                  · intro vs W hT
                    have tg : vs 7 = .bool true := hT 7 (by decide)
                    simp only [Rg.putsD, List.getD_cons_zero, List.getD_cons_succ, Act.put, List.setIfInBounds_toArray, List.set_cons_zero, List.set_cons_succ, tg]
                    rfl
                  refine Rg.cons 11 12 rfl (Rg.skipped (fun _ => Below.refl _ _) (fun _ _ => rfl) (by decide) (fun _ _ h => h) ?_) ?_
                  · intro vs W hT
                    have tg : vs 7 = .bool true := hT 7 (by decide)
                    simp only [Rg.putsD, List.getD_cons_zero, List.getD_cons_succ, Act.put, List.setIfInBounds_toArray, List.set_cons_zero, List.set_cons_succ, tg]
                    rfl
                  refine Rg.cons 12 13 rfl (Rg.skipped (fun _ => Below.refl _ _) (fun _ _ => rfl) (by decide) (fun _ _ h => h) ?_) ?_
                  · intro vs W hT
                    have tg : vs 7 = .bool true := hT 7 (by decide)
                    simp only [Rg.putsD, List.getD_cons_zero, List.getD_cons_succ, Act.put, List.setIfInBounds_toArray, List.set_cons_zero, List.set_cons_succ, tg]
                    rfl
                  refine Rg.cons 13 14 rfl (Rg.skipped (fun _ => Below.refl _ _) (fun _ _ => rfl) (by decide) (fun _ _ h => h) ?_) ?_
                  · intro vs W hT
                    have tg : vs 7 = .bool true := hT 7 (by decide)
                    simp only [Rg.putsD, List.getD_cons_zero, List.getD_cons_succ, Act.put, List.setIfInBounds_toArray, List.set_cons_zero, List.set_cons_succ, tg]
                    rfl
                  refine Rg.cons 14 15 rfl (Rg.skipped (fun _ => Below.refl _ _) (fun _ _ => rfl) (by decide) (fun _ _ h => h) ?_) ?_
                  · intro vs W hT
                    have tg : vs 7 = .bool true := hT 7 (by decide)
                    simp only [Rg.putsD, List.getD_cons_zero, List.getD_cons_succ, Act.put, List.setIfInBounds_toArray, List.set_cons_zero, List.set_cons_succ, tg]
                    rfl
                  refine Rg.cons 15 16 rfl (Rg.skipped (fun _ => Below.refl _ _) (fun _ _ => rfl) (by decide) (fun _ _ h => h) ?_) ?_
                  · intro vs W hT
                    have tg : vs 7 = .bool true := hT 7 (by decide)
                    simp only [Rg.putsD, List.getD_cons_zero, List.getD_cons_succ, Act.put, List.setIfInBounds_toArray, List.set_cons_zero, List.set_cons_succ, tg]
                    rfl
                  exact Rg.nil
                · intro vs W hG hI hT hF
                  have t0 : vs 0 = .slice A6 k c6 := hT 0 (by decide)
                  have t1 : vs 1 = .int .i64 m := hT 1 (by decide)
                  have t2 : vs 2 = .bool false := hT 2 (by decide)
                  have t3 : vs 3 = .bool true := hT 3 (by decide)
                  have t4 : vs 4 = .bool true := hT 4 (by decide)
                  have t5 : vs 5 = .int .i64 (-1) := hT 5 (by decide)
                  have t6 : vs 6 = .bool true := hT 6 (by decide)
                  have t7 : vs 7 = .bool true := hT 7 (by decide)
                  have t8 : vs 8 = undef := hT 8 (by decide)
                  have t9 : vs 9 = undef := hT 9 (by decide)
                  have t10 : vs 10 = undef := hT 10 (by decide)
                  have t11 : vs 11 = undef := hT 11 (by decide)
                  have t12 : vs 12 = undef := hT 12 (by decide)
                  have t13 : vs 13 = undef := hT 13 (by decide)
                  have t14 : vs 14 = undef := hT 14 (by decide)
                  have t15 : vs 15 = undef := hT 15 (by decide)
                  simp only [List.length_cons, List.length_nil, Nat.reduceAdd, List.range, List.range.loop, List.drop_succ_cons, List.drop_zero, Rg.putsD, List.getD_cons_zero, List.getD_cons_succ, Act.put, List.setIfInBounds_toArray, List.set_cons_zero, List.set_cons_succ, t0, t1, t2, t3, t4, t5, t6, t7, t8, t9, t10, t11, t12, t13, t14, t15]
                  clear hT t0 t1 t2 t3 t4 t5 t6 t7 t8 t9 t10 t11 t12 t13 t14 t15
                  have H9 := Lib.hid (HJ.out.1.drew.then_below hG hjz)
                  clear hF hI hG
                  go_wp2_with fail
                  go_meet
                  exact ⟨by rw [HST.out, HCT.out]; rfl, H9⟩
              | some bd =>
                obtain ⟨b, d⟩ := bd
                obtain rfl : N = (b : Int) := HRN.out.symm
                obtain ⟨hb, hbd⟩ := HSS.out b d rfl
                have hbl : b < l.length := by omega
                have HPB := Lib.hid (HPT.out b hbl)
                have HPBO := Lib.hid (HPQ.out (b : Int))
                rw [HPB.out] at HPBO hbd
                generalize hpb : l[b] = pb at *
                obtain ⟨bx, by'⟩ := pb
                have CD2 := Lib.hid (fun W => CD.out (a1, a2) (bx, by') HAOK.out HPBO.out W)
                rw [← hbd] at CD2
                dsimp only at CD2
                have HPL := Lib.hid hpb
                have i3 : (0 : Int) ≤ (b : Int) := by omega
                have i4 : (b : Int) < (l.length : Int) := by omega
                clear hbd hpb
                refine Rg.rgL (fun a b => Below a.heap.size a b)
                  [(fun vs u => vs 0 = .slice A6 k c6), (fun vs u => vs 1 = .int .i64 m), (fun vs u => vs 2 = .bool false), (fun vs u => vs 3 = .bool true), (fun vs u => vs 4 = .bool true), (fun vs u => vs 5 = .int .i64 b), (fun vs u => vs 6 = .bool false), (fun vs u => vs 7 = .bool false), (fun vs u => vs 8 = .agg #[.int .i64 a1, .int .i64 a2]), (fun vs u => vs 9 = .agg #[.int .i64 x, .int .i64 y]), (fun vs u => vs 10 = .int .i64 ap), (fun vs u => vs 11 = .agg #[.int .i64 a1, .int .i64 a2]), (fun vs u => vs 12 = .slice (some ⟨gp, 0, none⟩) l.length cp), (fun vs u => vs 13 = .int .i64 b), (fun vs u => vs 14 = .pointer (some ⟨gp, b * 2, none⟩)), (fun vs u => vs 15 = .agg #[.int .i64 bx, .int .i64 by'])]
                  [[], [], [0, 1], [0, 1, 2], [0, 1, 2, 3], [0, 1, 2, 3, 4], [0, 1, 2, 3, 4, 5], [0, 1, 2, 3, 4, 5, 6], [0, 1, 2, 3, 4, 5, 6, 7], [0, 1, 2, 3, 4, 5, 6, 7], [0, 1, 2, 3, 4, 5, 6, 7, 8, 9], [0, 1, 2, 3, 4, 5, 6, 7], [0, 1, 2, 3, 4, 5, 6, 7], [0, 1, 2, 3, 4, 5, 6, 7], [0, 1, 2, 3, 4, 5, 6, 7, 12, 13], [0, 1, 2, 3, 4, 5, 6, 7, 12, 13, 14]] [some 24, some 25, some 26, some 27, some 28, some 29, some 30, some 31, some 32, some 33, some 34, some 35, some 36, some 37, some 38, some 39, some 40, some 41, some 42, some 43] [] (fun _ _ => True) [[], [], [0, 1], [0, 1, 2], [0, 1, 2, 3], [0, 1, 2, 3, 4], [0, 1, 2, 3, 4, 5], [0, 1, 2, 3, 4, 5, 6], [0, 1, 2, 3, 4, 5, 6, 7], [0, 1, 2, 3, 4, 5, 6, 7], [0, 1, 2, 3, 4, 5, 6, 7, 8, 9], [0, 1, 2, 3, 4, 5, 6, 7], [0, 1, 2, 3, 4, 5, 6, 7], [0, 1, 2, 3, 4, 5, 6, 7], [0, 1, 2, 3, 4, 5, 6, 7, 12, 13], [0, 1, 2, 3, 4, 5, 6, 7, 12, 13, 14], [0, 1, 2, 3, 4, 5, 6, 7, 8, 9, 10, 11, 12, 13, 14, 15], [0, 1, 2, 3, 4, 5, 6, 7, 8, 9, 10, 11, 12, 13, 14, 15, 16], [0, 1, 2, 3, 4, 5, 6, 7, 8, 9, 10, 11, 12, 13, 14, 15, 16, 17], [0, 1, 2, 3, 4, 5, 6, 7, 8, 9, 10, 11, 12, 13, 14, 15, 16, 17, 18]]
                  (by kernel_rfl) (by decide) (by kernel_rfl) (by kernel_rfl) (by kernel_rfl) (by kernel_rfl) (by kernel_rfl) (fun _ => Below.refl _ _) (fun _ _ _ h k => h.ext k) (fun _ _ h => h.size) ?_ trivial ?_ ?_
                · intro t ht vs w w' h hE
                  simp only [List.mem_cons, List.not_mem_nil, or_false] at ht
                  rcases ht with rfl | rfl | rfl | rfl | rfl | rfl | rfl | rfl | rfl | rfl | rfl | rfl | rfl | rfl | rfl | rfl
                  · exact h
                  · exact h
                  · exact h
                  · exact h
                  · exact h
                  · exact h
                  · exact h
                  · exact h
                  · exact h
                  · exact h
                  · exact h
                  · exact h
                  · exact h
                  · exact h
                  · exact h
                  · exact h
                ·
                  refine Rg.cons 0 1 rfl (Rg.plain rfl ?_) ?_
                  · intro vs W n hn hI hG hT hF K hK
                    simp only [Rg.putsD, List.getD_cons_zero, List.getD_cons_succ, Act.put, List.setIfInBounds_toArray, List.set_cons_zero, List.set_cons_succ] at hK ⊢
                    clear hn
                    clear hF hI
                    have H := Lib.hid hK
                    clear hK hT
                    go_simp
                    exact H.out _ _ (Below.refl _ _) rfl (fun h => by cases h) trivial
                  refine Rg.cons 1 2 rfl (Rg.plain rfl ?_) ?_
                  · intro vs W n hn hI hG hT hF K hK
                    simp only [Rg.putsD, List.getD_cons_zero, List.getD_cons_succ, Act.put, List.setIfInBounds_toArray, List.set_cons_zero, List.set_cons_succ] at hK ⊢
                    clear hn
                    clear hF hI
                    have H := Lib.hid hK
                    clear hK hT
                    go_simp
                    exact H.out _ _ (Below.refl _ _) rfl (fun h => by cases h) trivial
                  refine Rg.cons 2 3 rfl (Rg.plain rfl ?_) ?_
                  · intro vs W n hn hI hG hT hF K hK
                    simp only [Rg.putsD, List.getD_cons_zero, List.getD_cons_succ, Act.put, List.setIfInBounds_toArray, List.set_cons_zero, List.set_cons_succ] at hK ⊢
                    clear hn
                    clear hF hI
                    have t0 : vs 0 = .slice A6 k c6 := hT 0 (by decide)
                    have t1 : vs 1 = .int .i64 m := hT 1 (by decide)
                    have HG := Lib.hid hG
                    clear hG
                    simp only [t0, t1] at hK
                    have H := Lib.hid hK
                    clear hK hT
                    go_simp
                    refine (CK.out _ (Reads.below (w := wj.drew) HRD.out HG.out)).mono ?_
                    rintro e w6 ⟨rfl, rfl⟩
                    exact H.out _ _ (Below.refl _ _) rfl (fun h => by cases h) trivial
                  refine Rg.cons 3 4 rfl (Rg.plain rfl ?_) ?_
                  · intro vs W n hn hI hG hT hF K hK
                    simp only [Rg.putsD, List.getD_cons_zero, List.getD_cons_succ, Act.put, List.setIfInBounds_toArray, List.set_cons_zero, List.set_cons_succ] at hK ⊢
                    clear hn
                    clear hF hI
                    have t0 : vs 0 = .slice A6 k c6 := hT 0 (by decide)
                    have t1 : vs 1 = .int .i64 m := hT 1 (by decide)
                    have t2 : vs 2 = .bool false := hT 2 (by decide)
                    simp only [t0, t1, t2] at hK
                    have H := Lib.hid hK
                    clear hK hT
                    go_simp
                    exact H.out _ _ (Below.refl _ _) rfl (fun h => by cases h) trivial
                  refine Rg.cons 4 5 rfl (Rg.plain rfl ?_) ?_
                  · intro vs W n hn hI hG hT hF K hK
                    simp only [Rg.putsD, List.getD_cons_zero, List.getD_cons_succ, Act.put, List.setIfInBounds_toArray, List.set_cons_zero, List.set_cons_succ] at hK ⊢
                    clear hn
                    clear hF hI
                    have t0 : vs 0 = .slice A6 k c6 := hT 0 (by decide)
                    have t1 : vs 1 = .int .i64 m := hT 1 (by decide)
                    have t2 : vs 2 = .bool false := hT 2 (by decide)
                    have t3 : vs 3 = .bool true := hT 3 (by decide)
                    simp only [t0, t1, t2, t3] at hK
                    have H := Lib.hid hK
                    clear hK hT
                    go_simp
                    exact H.out _ _ (Below.refl _ _) rfl (fun h => by cases h) trivial
                  refine Rg.cons 5 6 rfl (Rg.guarded ?_ ?_) ?_
                  · intro vs W hT
                    have tg : vs 4 = .bool true := hT 4 (by decide)
                    simp only [Rg.putsD, List.getD_cons_zero, List.getD_cons_succ, Act.put, List.setIfInBounds_toArray, List.set_cons_zero, List.set_cons_succ, tg]
                    rfl
                  · intro vs W n hn hI hG hT hF K hK
                    simp only [Rg.putsD, List.getD_cons_zero, List.getD_cons_succ, Act.put, List.setIfInBounds_toArray, List.set_cons_zero, List.set_cons_succ] at hK ⊢
                    clear hn
                    clear hF hI
                    have t0 : vs 0 = .slice A6 k c6 := hT 0 (by decide)
                    have t1 : vs 1 = .int .i64 m := hT 1 (by decide)
                    have t2 : vs 2 = .bool false := hT 2 (by decide)
                    have t3 : vs 3 = .bool true := hT 3 (by decide)
                    have t4 : vs 4 = .bool true := hT 4 (by decide)
                    simp only [t0, t1, t2, t3, t4] at hK
                    have H := Lib.hid hK
                    clear hK hT
                    go_simp
                    exact H.out _ _ (Below.refl _ _) rfl (fun h => by cases h) trivial
                  refine Rg.cons 6 7 rfl (Rg.guarded ?_ ?_) ?_
                  · intro vs W hT
                    have tg : vs 4 = .bool true := hT 4 (by decide)
                    simp only [Rg.putsD, List.getD_cons_zero, List.getD_cons_succ, Act.put, List.setIfInBounds_toArray, List.set_cons_zero, List.set_cons_succ, tg]
                    rfl
                  · intro vs W n hn hI hG hT hF K hK
                    simp only [Rg.putsD, List.getD_cons_zero, List.getD_cons_succ, Act.put, List.setIfInBounds_toArray, List.set_cons_zero, List.set_cons_succ] at hK ⊢
                    clear hn
                    clear hF hI
                    have t0 : vs 0 = .slice A6 k c6 := hT 0 (by decide)
                    have t1 : vs 1 = .int .i64 m := hT 1 (by decide)
                    have t2 : vs 2 = .bool false := hT 2 (by decide)
                    have t3 : vs 3 = .bool true := hT 3 (by decide)
                    have t4 : vs 4 = .bool true := hT 4 (by decide)
                    have t5 : vs 5 = .int .i64 b := hT 5 (by decide)
                    simp only [t0, t1, t2, t3, t4, t5] at hK
                    have H := Lib.hid hK
                    clear hK hT
                    go_simp
                    exact H.out _ _ (Below.refl _ _) rfl (fun h => by cases h) trivial
                  refine Rg.cons 7 8 rfl (Rg.guarded ?_ ?_) ?_
                  · intro vs W hT
                    have tg : vs 4 = .bool true := hT 4 (by decide)
                    simp only [Rg.putsD, List.getD_cons_zero, List.getD_cons_succ, Act.put, List.setIfInBounds_toArray, List.set_cons_zero, List.set_cons_succ, tg]
                    rfl
                  · intro vs W n hn hI hG hT hF K hK
                    simp only [Rg.putsD, List.getD_cons_zero, List.getD_cons_succ, Act.put, List.setIfInBounds_toArray, List.set_cons_zero, List.set_cons_succ] at hK ⊢
                    clear hn
                    clear hF hI
                    have t0 : vs 0 = .slice A6 k c6 := hT 0 (by decide)
                    have t1 : vs 1 = .int .i64 m := hT 1 (by decide)
                    have t2 : vs 2 = .bool false := hT 2 (by decide)
                    have t3 : vs 3 = .bool true := hT 3 (by decide)
                    have t4 : vs 4 = .bool true := hT 4 (by decide)
                    have t5 : vs 5 = .int .i64 b := hT 5 (by decide)
                    have t6 : vs 6 = .bool false := hT 6 (by decide)
                    simp only [t0, t1, t2, t3, t4, t5, t6] at hK
                    have H := Lib.hid hK
                    clear hK hT
                    go_simp
                    exact H.out _ _ (Below.refl _ _) rfl (fun h => by cases h) trivial
                  refine Rg.cons 8 9 rfl (Rg.guarded ?_ ?_) ?_
                  · intro vs W hT
                    have tg : vs 7 = .bool false := hT 7 (by decide)
                    simp only [Rg.putsD, List.getD_cons_zero, List.getD_cons_succ, Act.put, List.setIfInBounds_toArray, List.set_cons_zero, List.set_cons_succ, tg]
                    rfl
                  · intro vs W n hn hI hG hT hF K hK
                    simp only [Rg.putsD, List.getD_cons_zero, List.getD_cons_succ, Act.put, List.setIfInBounds_toArray, List.set_cons_zero, List.set_cons_succ] at hK ⊢
                    clear hn
                    clear hF hI
                    have t0 : vs 0 = .slice A6 k c6 := hT 0 (by decide)
                    have t1 : vs 1 = .int .i64 m := hT 1 (by decide)
                    have t2 : vs 2 = .bool false := hT 2 (by decide)
                    have t3 : vs 3 = .bool true := hT 3 (by decide)
                    have t4 : vs 4 = .bool true := hT 4 (by decide)
                    have t5 : vs 5 = .int .i64 b := hT 5 (by decide)
                    have t6 : vs 6 = .bool false := hT 6 (by decide)
                    have t7 : vs 7 = .bool false := hT 7 (by decide)
                    obtain ⟨c0, c1, _, _⟩ := blk2 (blk_below hG HA.out)
                    simp only [t0, t1, t2, t3, t4, t5, t6, t7] at hK
                    have H := Lib.hid hK
                    clear hK hT
                    go_simp
                    exact H.out _ _ (Below.refl _ _) rfl (fun h => by cases h) trivial
                  refine Rg.cons 9 10 rfl (Rg.guarded ?_ ?_) ?_
                  · intro vs W hT
                    have tg : vs 7 = .bool false := hT 7 (by decide)
                    simp only [Rg.putsD, List.getD_cons_zero, List.getD_cons_succ, Act.put, List.setIfInBounds_toArray, List.set_cons_zero, List.set_cons_succ, tg]
                    rfl
                  · intro vs W n hn hI hG hT hF K hK
                    simp only [Rg.putsD, List.getD_cons_zero, List.getD_cons_succ, Act.put, List.setIfInBounds_toArray, List.set_cons_zero, List.set_cons_succ] at hK ⊢
                    clear hn
                    clear hF hI
                    have t0 : vs 0 = .slice A6 k c6 := hT 0 (by decide)
                    have t1 : vs 1 = .int .i64 m := hT 1 (by decide)
                    have t2 : vs 2 = .bool false := hT 2 (by decide)
                    have t3 : vs 3 = .bool true := hT 3 (by decide)
                    have t4 : vs 4 = .bool true := hT 4 (by decide)
                    have t5 : vs 5 = .int .i64 b := hT 5 (by decide)
                    have t6 : vs 6 = .bool false := hT 6 (by decide)
                    have t7 : vs 7 = .bool false := hT 7 (by decide)
                    obtain ⟨c0, c1, _, _⟩ := blk2 (blk_below hG HJ.out.2.1)
                    simp only [t0, t1, t2, t3, t4, t5, t6, t7] at hK
                    have H := Lib.hid hK
                    clear hK hT
                    go_simp
                    exact H.out _ _ (Below.refl _ _) rfl (fun h => by cases h) trivial
                  refine Rg.cons 10 11 rfl (Rg.guarded ?_ ?_) ?_
                  · intro vs W hT
                    have tg : vs 7 = .bool false := hT 7 (by decide)
                    simp only [Rg.putsD, List.getD_cons_zero, List.getD_cons_succ, Act.put, List.setIfInBounds_toArray, List.set_cons_zero, List.set_cons_succ, tg]
                    rfl
                  · intro vs W n hn hI hG hT hF K hK
                    simp only [Rg.putsD, List.getD_cons_zero, List.getD_cons_succ, Act.put, List.setIfInBounds_toArray, List.set_cons_zero, List.set_cons_succ] at hK ⊢
                    clear hn
                    clear hF hI
                    have t0 : vs 0 = .slice A6 k c6 := hT 0 (by decide)
                    have t1 : vs 1 = .int .i64 m := hT 1 (by decide)
                    have t2 : vs 2 = .bool false := hT 2 (by decide)
                    have t3 : vs 3 = .bool true := hT 3 (by decide)
                    have t4 : vs 4 = .bool true := hT 4 (by decide)
                    have t5 : vs 5 = .int .i64 b := hT 5 (by decide)
                    have t6 : vs 6 = .bool false := hT 6 (by decide)
                    have t7 : vs 7 = .bool false := hT 7 (by decide)
                    have t8 : vs 8 = .agg #[.int .i64 a1, .int .i64 a2] := hT 8 (by decide)
                    have t9 : vs 9 = .agg #[.int .i64 x, .int .i64 y] := hT 9 (by decide)
                    have HG := Lib.hid hG
                    clear hG
                    simp only [t0, t1, t2, t3, t4, t5, t6, t7, t8, t9] at hK
                    have H := Lib.hid hK
                    clear hK hT
                    go_simp
                    refine (CD1.out _).mono ?_
                    rintro e w6 ⟨rfl, b6⟩
                    exact H.out _ _ b6 rfl (fun h => by cases h) trivial
                  refine Rg.cons 11 12 rfl (Rg.guarded ?_ ?_) ?_
                  · intro vs W hT
                    have tg : vs 7 = .bool false := hT 7 (by decide)
                    simp only [Rg.putsD, List.getD_cons_zero, List.getD_cons_succ, Act.put, List.setIfInBounds_toArray, List.set_cons_zero, List.set_cons_succ, tg]
                    rfl
                  · intro vs W n hn hI hG hT hF K hK
                    simp only [Rg.putsD, List.getD_cons_zero, List.getD_cons_succ, Act.put, List.setIfInBounds_toArray, List.set_cons_zero, List.set_cons_succ] at hK ⊢
                    clear hn
                    clear hF hI
                    have t0 : vs 0 = .slice A6 k c6 := hT 0 (by decide)
                    have t1 : vs 1 = .int .i64 m := hT 1 (by decide)
                    have t2 : vs 2 = .bool false := hT 2 (by decide)
                    have t3 : vs 3 = .bool true := hT 3 (by decide)
                    have t4 : vs 4 = .bool true := hT 4 (by decide)
                    have t5 : vs 5 = .int .i64 b := hT 5 (by decide)
                    have t6 : vs 6 = .bool false := hT 6 (by decide)
                    have t7 : vs 7 = .bool false := hT 7 (by decide)
                    obtain ⟨c0, c1, _, _⟩ := blk2 (blk_below hG HA.out)
                    simp only [t0, t1, t2, t3, t4, t5, t6, t7] at hK
                    have H := Lib.hid hK
                    clear hK hT
                    go_simp
                    exact H.out _ _ (Below.refl _ _) rfl (fun h => by cases h) trivial
                  refine Rg.cons 12 13 rfl (Rg.guarded ?_ ?_) ?_
                  · intro vs W hT
                    have tg : vs 7 = .bool false := hT 7 (by decide)
                    simp only [Rg.putsD, List.getD_cons_zero, List.getD_cons_succ, Act.put, List.setIfInBounds_toArray, List.set_cons_zero, List.set_cons_succ, tg]
                    rfl
                  · intro vs W n hn hI hG hT hF K hK
                    simp only [Rg.putsD, List.getD_cons_zero, List.getD_cons_succ, Act.put, List.setIfInBounds_toArray, List.set_cons_zero, List.set_cons_succ] at hK ⊢
                    clear hn
                    clear hF hI
                    have t0 : vs 0 = .slice A6 k c6 := hT 0 (by decide)
                    have t1 : vs 1 = .int .i64 m := hT 1 (by decide)
                    have t2 : vs 2 = .bool false := hT 2 (by decide)
                    have t3 : vs 3 = .bool true := hT 3 (by decide)
                    have t4 : vs 4 = .bool true := hT 4 (by decide)
                    have t5 : vs 5 = .int .i64 b := hT 5 (by decide)
                    have t6 : vs 6 = .bool false := hT 6 (by decide)
                    have t7 : vs 7 = .bool false := hT 7 (by decide)
                    simp only [t0, t1, t2, t3, t4, t5, t6, t7] at hK
                    have H := Lib.hid hK
                    clear hK hT
                    go_simp
                    exact H.out _ _ (Below.refl _ _) rfl (fun h => by cases h) trivial
                  refine Rg.cons 13 14 rfl (Rg.guarded ?_ ?_) ?_
                  · intro vs W hT
                    have tg : vs 7 = .bool false := hT 7 (by decide)
                    simp only [Rg.putsD, List.getD_cons_zero, List.getD_cons_succ, Act.put, List.setIfInBounds_toArray, List.set_cons_zero, List.set_cons_succ, tg]
                    rfl
                  · intro vs W n hn hI hG hT hF K hK
                    simp only [Rg.putsD, List.getD_cons_zero, List.getD_cons_succ, Act.put, List.setIfInBounds_toArray, List.set_cons_zero, List.set_cons_succ] at hK ⊢
                    clear hn
                    clear hF hI
                    have t0 : vs 0 = .slice A6 k c6 := hT 0 (by decide)
                    have t1 : vs 1 = .int .i64 m := hT 1 (by decide)
                    have t2 : vs 2 = .bool false := hT 2 (by decide)
                    have t3 : vs 3 = .bool true := hT 3 (by decide)
                    have t4 : vs 4 = .bool true := hT 4 (by decide)
                    have t5 : vs 5 = .int .i64 b := hT 5 (by decide)
                    have t6 : vs 6 = .bool false := hT 6 (by decide)
                    have t7 : vs 7 = .bool false := hT 7 (by decide)
                    simp only [t0, t1, t2, t3, t4, t5, t6, t7] at hK
                    have H := Lib.hid hK
                    clear hK hT
                    go_simp
                    exact H.out _ _ (Below.refl _ _) rfl (fun h => by cases h) trivial
                  refine Rg.cons 14 15 rfl (Rg.guarded ?_ ?_) ?_
                  · intro vs W hT
                    have tg : vs 7 = .bool false := hT 7 (by decide)
                    simp only [Rg.putsD, List.getD_cons_zero, List.getD_cons_succ, Act.put, List.setIfInBounds_toArray, List.set_cons_zero, List.set_cons_succ, tg]
                    rfl
                  · intro vs W n hn hI hG hT hF K hK
                    simp only [Rg.putsD, List.getD_cons_zero, List.getD_cons_succ, Act.put, List.setIfInBounds_toArray, List.set_cons_zero, List.set_cons_succ] at hK ⊢
                    clear hn
                    clear hF hI
                    have t0 : vs 0 = .slice A6 k c6 := hT 0 (by decide)
                    have t1 : vs 1 = .int .i64 m := hT 1 (by decide)
                    have t2 : vs 2 = .bool false := hT 2 (by decide)
                    have t3 : vs 3 = .bool true := hT 3 (by decide)
                    have t4 : vs 4 = .bool true := hT 4 (by decide)
                    have t5 : vs 5 = .int .i64 b := hT 5 (by decide)
                    have t6 : vs 6 = .bool false := hT 6 (by decide)
                    have t7 : vs 7 = .bool false := hT 7 (by decide)
                    have t12 : vs 12 = .slice (some ⟨gp, 0, none⟩) l.length cp := hT 12 (by decide)
                    have t13 : vs 13 = .int .i64 b := hT 13 (by decide)
                    simp only [t0, t1, t2, t3, t4, t5, t6, t7, t12, t13] at hK
                    have H := Lib.hid hK
                    clear hK hT
                    go_simp
                    exact H.out _ _ (Below.refl _ _) rfl (fun h => by cases h) trivial
                  refine Rg.cons 15 16 rfl (Rg.guarded ?_ ?_) ?_
                  · intro vs W hT
                    have tg : vs 7 = .bool false := hT 7 (by decide)
                    simp only [Rg.putsD, List.getD_cons_zero, List.getD_cons_succ, Act.put, List.setIfInBounds_toArray, List.set_cons_zero, List.set_cons_succ, tg]
                    rfl
                  · intro vs W n hn hI hG hT hF K hK
                    simp only [Rg.putsD, List.getD_cons_zero, List.getD_cons_succ, Act.put, List.setIfInBounds_toArray, List.set_cons_zero, List.set_cons_succ] at hK ⊢
                    clear hn
                    clear hF hI
                    have t0 : vs 0 = .slice A6 k c6 := hT 0 (by decide)
                    have t1 : vs 1 = .int .i64 m := hT 1 (by decide)
                    have t2 : vs 2 = .bool false := hT 2 (by decide)
                    have t3 : vs 3 = .bool true := hT 3 (by decide)
                    have t4 : vs 4 = .bool true := hT 4 (by decide)
                    have t5 : vs 5 = .int .i64 b := hT 5 (by decide)
                    have t6 : vs 6 = .bool false := hT 6 (by decide)
                    have t7 : vs 7 = .bool false := hT 7 (by decide)
                    have t12 : vs 12 = .slice (some ⟨gp, 0, none⟩) l.length cp := hT 12 (by decide)
                    have t13 : vs 13 = .int .i64 b := hT 13 (by decide)
                    have t14 : vs 14 = .pointer (some ⟨gp, b * 2, none⟩) := hT 14 (by decide)
                    obtain ⟨c0, c1⟩ := row_pt (LineAt.below (w := wj.drew) HJ.out.2.2 hG) hbl
                    rw [HPL.out] at c0 c1
                    dsimp only at c0 c1
                    have hgl := Nat.lt_of_lt_of_le HJ.out.2.2.1 hG.size
                    simp only [t0, t1, t2, t3, t4, t5, t6, t7, t12, t13, t14] at hK
                    have H := Lib.hid hK
                    clear hK hT
                    go_simp
                    exact H.out _ _ (Below.refl _ _) rfl (fun h => by cases h) trivial
                  exact Rg.nil
                · intro vs W hG hI hT hF
                  have t0 : vs 0 = .slice A6 k c6 := hT 0 (by decide)
                  have t1 : vs 1 = .int .i64 m := hT 1 (by decide)
                  have t2 : vs 2 = .bool false := hT 2 (by decide)
                  have t3 : vs 3 = .bool true := hT 3 (by decide)
                  have t4 : vs 4 = .bool true := hT 4 (by decide)
                  have t5 : vs 5 = .int .i64 b := hT 5 (by decide)
                  have t6 : vs 6 = .bool false := hT 6 (by decide)
                  have t7 : vs 7 = .bool false := hT 7 (by decide)
                  have t8 : vs 8 = .agg #[.int .i64 a1, .int .i64 a2] := hT 8 (by decide)
                  have t9 : vs 9 = .agg #[.int .i64 x, .int .i64 y] := hT 9 (by decide)
                  have t10 : vs 10 = .int .i64 ap := hT 10 (by decide)
                  have t11 : vs 11 = .agg #[.int .i64 a1, .int .i64 a2] := hT 11 (by decide)
                  have t12 : vs 12 = .slice (some ⟨gp, 0, none⟩) l.length cp := hT 12 (by decide)
                  have t13 : vs 13 = .int .i64 b := hT 13 (by decide)
                  have t14 : vs 14 = .pointer (some ⟨gp, b * 2, none⟩) := hT 14 (by decide)
                  have t15 : vs 15 = .agg #[.int .i64 bx, .int .i64 by'] := hT 15 (by decide)
                  simp only [List.length_cons, List.length_nil, Nat.reduceAdd, List.range, List.range.loop, List.drop_succ_cons, List.drop_zero, Rg.putsD, List.getD_cons_zero, List.getD_cons_succ, Act.put, List.setIfInBounds_toArray, List.set_cons_zero, List.set_cons_succ, t0, t1, t2, t3, t4, t5, t6, t7, t8, t9, t10, t11, t12, t13, t14, t15]
                  clear hT t0 t1 t2 t3 t4 t5 t6 t7 t8 t9 t10 t11 t12 t13 t14 t15
                  have H9 := Lib.hid (HJ.out.1.drew.then_below hG hjz)
                  clear hF hI hG
                  go_wp2_with fail
                  refine (CD2.out _).mono ?_
                  rintro e w6 ⟨rfl, b6⟩
                  have H10 := Lib.hid (H9.out.then_below b6 H9.out.size)
                  clear b6 H9
                  go_wp2_with fail
                  go_meet
                  exact ⟨by rw [HST.out, HCT.out]; simp [selB], H10⟩
          case rest =>
            obtain ⟨rfl, HC⟩ := hcut
            have hcz := HC.out.size
            generalize hB : selB (acc.contains (m : Int)) ap (sel l acc (a1, a2) m) = B at *
            cases B
            · have HE2 : Hid (selR (sel l acc (a1, a2) (m + 1)) = N) := by
                show _ = _
                rw [HSU.out]
                exact HRN.out
              go_wp2_with fail
              go_roundw
              case rel => exact ⟨m + 1, by omega, by go_num, by rw [HE2.out], hcz, HC⟩
              case measure => simp [intOf]; omega
            · have HE2 : Hid (selR (sel l acc (a1, a2) (m + 1)) = m) := by
                show _ = _
                rw [HSU.out]
                rfl
              go_wp2_with fail
              go_roundw
              case rel => exact ⟨m + 1, by omega, by go_num, by rw [HE2.out], hcz, HC⟩
              case measure => simp [intOf]; omega
        · obtain rfl : m = l.length := by omega
          have HRN : Hid (selR (sel l acc (a1, a2) l.length) = nx) := by
            obtain ⟨b, d, h⟩ := HLF.out
            show selR _ = _
            rw [HNE.out b d h, h]
            rfl
          simp only [HRN.out]
          have H1 : Hid (Below w.heap.size w wr ∧ wr.heap[w.heap.size]? = some (.cells #[.int .i64 s1, .int .i64 s2] 27 (0, 0)) ∧ wr.heap[w.heap.size + 1]? = some (.cells #[.int .i64 a1, .int .i64 a2] 27 (0, 0)) ∧ wr.ownsRow (w.heap.size + 2) 3 1 (.slice A6 k c6) k (acc.map (Value.int .i64))) :=
            ⟨HIB.out, blk_below HI.out HS.out.2.1, blk_below HI.out HS.out.2.2.1, own_below HS.out.2.2.2 HI.out⟩
          have hzr : w.heap.size + 2 ≤ wr.heap.size := by omega
          clear HS HI HIB hiz hm hltm CD HSP HAO H0 HK0
          obtain ⟨i9, hi0, hz0, hzz1, hz20⟩ := info_parts int_infoN
          have HI := Lib.hid (And.intro hi0 (And.intro hz0 (And.intro hzz1 hz20)))
          clear hi0 hz0 hzz1 hz20
          go_wp2_with (at_builtin; refine hold ?_)
          refine loose ?_
          refine wpList_append_own _ rfl _ _ 22 rfl (w.heap.size + 2) 3 i9 _ 1 8 Try.underlying22 HI.out.1 HI.out.2.1 HI.out.2.2.1 HI.out.2.2.2 rfl (by omega) _ k (acc.map (Value.int .i64)) rfl (H1.out.2.2.2.alloc _) ⟨wr.heap.size, 0, none⟩ 1 1 [.int .i64 nx] rfl rfl (cell_one_new _ _ _) (by intro u hu; simp at hu; subst hu; rfl) (by unfold maxLen; omega) (by omega) (by simp; omega) ?_
          intro v' w2 hown' hg' _
          have hrow' := own_row (H1.out.2.2.2.alloc (.cells #[.int .i64 (nx : Int)] 3))
          have hb2 := (hg'.block w.heap.size (by simp; omega) (fun e => by have := hrow' _ e.symm; omega)).trans (blk_alloc H1.out.2.1 _)
          have ha2 := (hg'.block (w.heap.size + 1) (by simp; omega) (fun e => by have := hrow' _ e.symm; omega)).trans (blk_alloc H1.out.2.2.1 _)
          have H2 : Hid (Below w.heap.size w w2 ∧ w2.heap[w.heap.size]? = some (.cells #[.int .i64 s1, .int .i64 s2] 27 (0, 0)) ∧ w2.heap[w.heap.size + 1]? = some (.cells #[.int .i64 a1, .int .i64 a2] 27 (0, 0)) ∧ w2.ownsRow (w.heap.size + 2) 3 1 v' (k + 1) ((acc ++ [(nx : Int)]).map (Value.int .i64))) :=
            ⟨(H1.out.1.alloc H1.out.1.size _).grown hg' (by simp; omega) (fun j hj => by have := hrow' _ hj; omega), hb2, ha2, by rw [List.map_append]; exact hown'⟩
          clear hown' hg' hrow' hb2 ha2 H1
          have hz2 := lt_of_blk H2.out.2.2.1
          have HPN := Lib.hid (ptAt_nat l hnl)
          obtain ⟨_, _, g0, g1⟩ := blk2 H2.out.2.2.1
          have hgw : ∃ gp, Ap = some ⟨gp, 0, none⟩ ∧ gp < w.heap.size ∧ LineAt w2 gp (l.flatMap encP) := by
            obtain ⟨Ap', cp', ep, hrp⟩ := HR.out
            cases ep
            rcases hrp with rfl | ⟨gp, rfl, hrowp⟩
            · simp at hlt
            · exact ⟨gp, rfl, hrowp.1, hrowp.below H2.out.1⟩
          obtain ⟨gp, rfl, hgp, hrowp⟩ := hgw
          obtain ⟨r0, r1⟩ := row_pt hrowp hnl
          have hgp2 := hrowp.1
          clear hrowp
          generalize l[nx] = p at *
          obtain ⟨x, y⟩ := p
          dsimp only at r0 r1
          have i1 : (0 : Int) ≤ (nx : Int) := by omega
          have i2 : (nx : Int) < (l.length : Int) := by omega
          have hn2 : gp ≠ w.heap.size + 1 := by omega
          obtain ⟨A9, c9, rfl, _⟩ := own_form H2.out.2.2.2
          go_wp2_with fail
          have H5 : Hid (Below w.heap.size w ((w2.setCell ⟨w.heap.size + 1, 0, none⟩ (.int .i64 x)).setCell ⟨w.heap.size + 1, 1, none⟩ (.int .i64 y)) ∧ ((w2.setCell ⟨w.heap.size + 1, 0, none⟩ (.int .i64 x)).setCell ⟨w.heap.size + 1, 1, none⟩ (.int .i64 y)).heap[w.heap.size]? = some (.cells #[.int .i64 s1, .int .i64 s2] 27 (0, 0)) ∧ ((w2.setCell ⟨w.heap.size + 1, 0, none⟩ (.int .i64 x)).setCell ⟨w.heap.size + 1, 1, none⟩ (.int .i64 y)).heap[w.heap.size + 1]? = some (.cells #[.int .i64 x, .int .i64 y] 27 (0, 0)) ∧ ((w2.setCell ⟨w.heap.size + 1, 0, none⟩ (.int .i64 x)).setCell ⟨w.heap.size + 1, 1, none⟩ (.int .i64 y)).ownsRow (w.heap.size + 2) 3 1 (.slice A9 (k + 1) c9) (k + 1) ((acc ++ [(nx : Int)]).map (Value.int .i64))) := by
            refine ⟨(H2.out.1.setCell (by show _ ≤ w.heap.size + 1; omega) _).setCell (by show _ ≤ w.heap.size + 1; omega) _, ?_, ?_, ?_⟩
            · exact blk_far (blk_far H2.out.2.1 (by show _ ≠ w.heap.size + 1; omega) _) (by show _ ≠ w.heap.size + 1; omega) _
            · exact blk_set (blk_set H2.out.2.2.1 _) _
            · exact own_far (own_far H2.out.2.2.2 (by show w.heap.size + 1 < _; omega) _) (by show w.heap.size + 1 < _; omega) _
          have hz5 : w.heap.size + 1 < ((w2.setCell ⟨w.heap.size + 1, 0, none⟩ (.int .i64 x)).setCell ⟨w.heap.size + 1, 1, none⟩ (.int .i64 y)).heap.size := lt_of_blk H5.out.2.2.1
          generalize (w2.setCell ⟨w.heap.size + 1, 0, none⟩ (.int .i64 x)).setCell ⟨w.heap.size + 1, 1, none⟩ (.int .i64 y) = w5 at *
          go_roundw
          case rel => exact ⟨k + 1, by omega, hz5, ⟨_, _, rfl⟩, H5.out.1, H5.out.2.1, by rw [HNX.out, HAT.out, HPN.out]; exact H5.out.2.2.1, by rw [HNX.out]; exact H5.out.2.2.2⟩
          case measure => show l.length - (k + 1) < l.length - k; omega
    · obtain rfl : k = l.length := by omega
      have i0 : ¬ (l.length : Int) < (l.length : Int) := by omega
      have CL1 := Lib.hid (CL.out wr _ (HR.out.below HS.out.1) (readsN_own' HS.out.2.2.2 HNLL.out.symm))
      obtain ⟨c0, c1, _, _⟩ := blk2 HS.out.2.1
      have hbl := lt_of_blk HS.out.2.1
      go_wp2_with fail
      refine CL1.out.mono ?_
      rintro e w6 ⟨rfl, b6⟩
      have H6 := Lib.hid (And.intro (HS.out.1.then_below b6 HS.out.1.size) (own_below HS.out.2.2.2 b6))
      clear b6 c0 c1 HS CL1
      go_wp2_with fail
      refine bodyPost_ret (v := .tuple #[.slice A6 l.length c6, .int .i64 (lenOf (s1, s2) l (nearL (s1, s2) l))]) (by unfold results; simp only [Try.results19]; go_simp) rfl ⟨_, rfl, own_mono H6.out.2 (by omega), H6.out.1⟩
end Go.Proofs.Ytbkbjljkfhahbaa
