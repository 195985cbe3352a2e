/-
  Improved: the program's test of a turn.
-/
import Derived.Test.YtbkbjljkfhahbaaTrB
namespace Go.Proofs.Ytbkbjljkfhahbaa
open Go.RowKit
set_option linter.unusedSimpArgs false
set_option linter.unusedVariables false

/-- A point in a block of its own. -/
def PB (W : World) (g : Nat) (p : Int × Int) : Prop := W.heap[g]? = some (.cells #[.int .i64 p.1, .int .i64 p.2] 27 (0, 0))
set_option maxRecDepth 100000 in
set_option maxHeartbeats 16000000 in
theorem shorter_any (s : Int × Int) (l : List (Int × Int)) (o : List Int) (hs : okPt s = true) (hl : ∀ p ∈ l, okPt p = true) (hln : l.length ≤ 1000) (hol : o.length ≤ 1000) (ho : ∀ k ∈ o, 0 ≤ k ∧ k < (l.length : Int)) (i k : Nat) (hik : i < k) (hk : k < o.length) (q : Nat) {pv ov : Value} (w : World) (hS : SI q s pv ov w) (h1 : Reads encP pv l w) (h2 : Reads encN ov o w) :
    Calls Try.prog 56 #[.int .i64 i, .int .i64 k, .pointer (some ⟨q + 3, 0, none⟩)] w fun e w' => e = .returned (.bool (shw s l o i k)) ∧ Below w.heap.size w w' := by
  have HEN := enters_of Try.func55 (by kernel_rfl) rfl
  have CA := Lib.hid (fun (j : Int) (hj : -1 ≤ j ∧ j ≤ o.length) (W : World) (hb : Below w.heap.size w W) => at_any s l o hln hol ho j hj q W (hS.below hb) (h1.below hb) (h2.below hb))
  have CB := Lib.hid (CA.out ((i : Int) - 1) ⟨by omega, by omega⟩)
  have CF := Lib.hid (CA.out (i : Int) ⟨by omega, by omega⟩)
  have CL := Lib.hid (CA.out (k : Int) ⟨by omega, by omega⟩)
  have CE := Lib.hid (CA.out ((k : Int) + 1) ⟨by omega, by omega⟩)
  have HW : Hid (shw s l o i k = decide (apart (plAt s l o ((i : Int) - 1)) (plAt s l o k) + apart (plAt s l o i) (plAt s l o ((k : Int) + 1)) < apart (plAt s l o ((i : Int) - 1)) (plAt s l o i) + apart (plAt s l o k) (plAt s l o ((k : Int) + 1)))) := rfl
  have okB := plAt_ok hs hl o ((i : Int) - 1)
  have okF := plAt_ok hs hl o (i : Int)
  have okL := plAt_ok hs hl o (k : Int)
  have okE := plAt_ok hs hl o ((k : Int) + 1)
  have HS := Lib.hid hS
  have HL := lt_of_blk hS.k3
  clear CA hs hl ho h1 h2 hS
  generalize shw s l o i k = R at *
  generalize plAt s l o ((i : Int) - 1) = pb at *
  generalize plAt s l o (i : Int) = pf at *
  generalize plAt s l o (k : Int) = pl at *
  generalize plAt s l o ((k : Int) + 1) = pe at *
  have CD1 := Lib.hid (fun W => distance_any pb pl okB okL W)
  have CD2 := Lib.hid (fun W => distance_any pf pe okF okE W)
  have CD3 := Lib.hid (fun W => distance_any pb pf okB okF W)
  have CD4 := Lib.hid (fun W => distance_any pl pe okL okE W)
  obtain ⟨a1, b1⟩ := apart_bd okB okL
  obtain ⟨a2, b2⟩ := apart_bd okF okE
  obtain ⟨a3, b3⟩ := apart_bd okB okF
  obtain ⟨a4, b4⟩ := apart_bd okL okE
  generalize apart pb pl = d1 at *
  generalize apart pf pe = d2 at *
  generalize apart pb pf = d3 at *
  generalize apart pl pe = d4 at *
  obtain ⟨pbx, pby⟩ := pb
  obtain ⟨pfx, pfy⟩ := pf
  obtain ⟨plx, ply⟩ := pl
  obtain ⟨pex, pey⟩ := pe
  dsimp only at *
  go_enter Try.func56, Try.ntmps56
  go_upto_region 1 with (fail)
  go_cut [6, 7, 8, 9] (fun s6 s7 s8 s9 wc => ∃ g6 g7 g8 g9 : Nat, s6 = .pointer (some ⟨g6, 0, none⟩) ∧ s7 = .pointer (some ⟨g7, 0, none⟩) ∧ s8 = .pointer (some ⟨g8, 0, none⟩) ∧ s9 = .pointer (some ⟨g9, 0, none⟩) ∧ Hid (PB wc g6 (pbx, pby) ∧ PB wc g7 (pfx, pfy) ∧ PB wc g8 (plx, ply) ∧ PB wc g9 (pex, pey) ∧ Below w.heap.size w wc))
  case first =>
    have hi1 : IntKind.i64.wrap ((i : Int) - 1) = (i : Int) - 1 := IntWalk.i64_in _ (by omega)
    have hk1 : IntKind.i64.wrap ((k : Int) + 1) = (k : Int) + 1 := IntWalk.i64_in _ (by omega)
    refine Rg.rgL (fun a b => Below a.heap.size a b)
      [(fun vs u => vs 0 = .func (.func 55) #[] #[.pointer (some ⟨q + 2, 0, none⟩), .pointer (some ⟨q, 0, none⟩), .pointer (some ⟨q + 1, 0, none⟩)]), (fun vs u => vs 1 = .int .i64 i), (fun vs u => vs 2 = .int .i64 ((i : Int) - 1)), (fun vs u => vs 3 = .agg #[.int .i64 pbx, .int .i64 pby]), (fun vs u => vs 4 = .func (.func 55) #[] #[.pointer (some ⟨q + 2, 0, none⟩), .pointer (some ⟨q, 0, none⟩), .pointer (some ⟨q + 1, 0, none⟩)]), (fun vs u => vs 5 = .int .i64 i), (fun vs u => vs 6 = .agg #[.int .i64 pfx, .int .i64 pfy]), (fun vs u => vs 7 = .func (.func 55) #[] #[.pointer (some ⟨q + 2, 0, none⟩), .pointer (some ⟨q, 0, none⟩), .pointer (some ⟨q + 1, 0, none⟩)]), (fun vs u => vs 8 = .int .i64 k), (fun vs u => vs 9 = .agg #[.int .i64 plx, .int .i64 ply]), (fun vs u => vs 10 = .func (.func 55) #[] #[.pointer (some ⟨q + 2, 0, none⟩), .pointer (some ⟨q, 0, none⟩), .pointer (some ⟨q + 1, 0, none⟩)]), (fun vs u => vs 11 = .int .i64 k), (fun vs u => vs 12 = .int .i64 ((k : Int) + 1)), (fun vs u => vs 13 = .agg #[.int .i64 pex, .int .i64 pey]), (fun vs u => ∃ b : Nat, vs 14 = .pointer (some ⟨b, 0, none⟩) ∧ u.heap[b]? = some (.cells #[.int .i64 0, .int .i64 0] 27 (0, 0))), (fun vs u => ∃ b : Nat, vs 15 = .pointer (some ⟨b, 0, none⟩) ∧ u.heap[b]? = some (.cells #[.int .i64 0, .int .i64 0] 27 (0, 0))), (fun vs u => ∃ b : Nat, vs 16 = .pointer (some ⟨b, 0, none⟩) ∧ u.heap[b]? = some (.cells #[.int .i64 0, .int .i64 0] 27 (0, 0))), (fun vs u => ∃ b : Nat, vs 17 = .pointer (some ⟨b, 0, none⟩) ∧ u.heap[b]? = some (.cells #[.int .i64 0, .int .i64 0] 27 (0, 0)))]
      [[], [], [1], [0, 1, 2], [], [], [0, 1, 2, 3, 4, 5], [], [], [0, 1, 2, 3, 4, 5, 6, 7, 8], [], [], [11], [0, 1, 2, 3, 4, 5, 6, 7, 8, 9, 10, 11, 12], [], [], [], []] [some 10, some 11, some 12, some 13, some 14, some 15, some 16, some 17, some 18, some 19, some 20, some 21, some 22, some 23, some 6, some 7, some 8, some 9, none, none, none, none] [14, 15, 16, 17] (fun _ _ => True) [[], [], [1], [0, 1, 2], [], [], [0, 1, 2, 3, 4, 5], [], [], [0, 1, 2, 3, 4, 5, 6, 7, 8], [], [], [11], [0, 1, 2, 3, 4, 5, 6, 7, 8, 9, 10, 11, 12], [], [], [], [], [0, 1, 2, 3, 4, 5, 6, 7, 8, 9, 10, 11, 12, 13, 14, 15, 16, 17], [0, 1, 2, 3, 4, 5, 6, 7, 8, 9, 10, 11, 12, 13, 14, 15, 16, 17, 18], [0, 1, 2, 3, 4, 5, 6, 7, 8, 9, 10, 11, 12, 13, 14, 15, 16, 17, 18, 19], [0, 1, 2, 3, 4, 5, 6, 7, 8, 9, 10, 11, 12, 13, 14, 15, 16, 17, 18, 19, 20]]
      (by kernel_rfl) (by decide) (by kernel_rfl) (by kernel_rfl) (by kernel_rfl) (by kernel_rfl) (by kernel_rfl) (fun _ => Below.refl _ _) (fun _ _ _ h k => h.ext k) (fun _ _ h => h.size) ?_ trivial ?_ ?_
    · intro t ht vs w w' h hE
      simp only [List.mem_cons, List.not_mem_nil, or_false] at ht
      rcases ht with rfl | rfl | rfl | rfl | rfl | rfl | rfl | rfl | rfl | rfl | rfl | rfl | rfl | rfl | rfl | rfl | rfl | rfl
      · exact h
      · exact h
      · exact h
      · exact h
      · exact h
      · exact h
      · exact h
      · exact h
      · exact h
      · exact h
      · exact h
      · exact h
      · exact h
      · exact h
      · obtain ⟨b, e, k⟩ := h
        exact ⟨b, e, blk_below hE k⟩
      · obtain ⟨b, e, k⟩ := h
        exact ⟨b, e, blk_below hE k⟩
      · obtain ⟨b, e, k⟩ := h
        exact ⟨b, e, blk_below hE k⟩
      · obtain ⟨b, e, k⟩ := h
        exact ⟨b, e, blk_below hE k⟩
    ·
      refine Rg.cons 0 1 rfl (Rg.plain rfl ?_) ?_
      · intro vs W n hn hI hG hT hF K hK
        simp only [Rg.putsD, List.getD_cons_zero, List.getD_cons_succ, Act.put, List.setIfInBounds_toArray, List.set_cons_zero, List.set_cons_succ] at hK ⊢
        clear hn
        clear hF hI
        have c0 := cell_of_blk (blk_below hG (HS.out.below (Below.refl _ _).drew).k3) 0
        simp [atF] at c0
        have H := Lib.hid hK
        clear hK hT
        go_simp
        exact H.out _ _ (Below.refl _ _) rfl (fun h => by cases h) trivial
      refine Rg.cons 1 2 rfl (Rg.plain rfl ?_) ?_
      · intro vs W n hn hI hG hT hF K hK
        simp only [Rg.putsD, List.getD_cons_zero, List.getD_cons_succ, Act.put, List.setIfInBounds_toArray, List.set_cons_zero, List.set_cons_succ] at hK ⊢
        clear hn
        clear hF hI
        have H := Lib.hid hK
        clear hK hT
        go_simp
        exact H.out _ _ (Below.refl _ _) rfl (fun h => by cases h) trivial
      refine Rg.cons 2 3 rfl (Rg.plain rfl ?_) ?_
      · intro vs W n hn hI hG hT hF K hK
        simp only [Rg.putsD, List.getD_cons_zero, List.getD_cons_succ, Act.put, List.setIfInBounds_toArray, List.set_cons_zero, List.set_cons_succ] at hK ⊢
        clear hn
        clear hF hI
        have t1 : vs 1 = .int .i64 i := hT 1 (by decide)
        simp only [t1] at hK
        have H := Lib.hid hK
        clear hK hT
        go_simp
        exact H.out _ _ (Below.refl _ _) rfl (fun h => by cases h) trivial
      refine Rg.cons 3 4 rfl (Rg.plain rfl ?_) ?_
      · intro vs W n hn hI hG hT hF K hK
        simp only [Rg.putsD, List.getD_cons_zero, List.getD_cons_succ, Act.put, List.setIfInBounds_toArray, List.set_cons_zero, List.set_cons_succ] at hK ⊢
        clear hn
        clear hF hI
        have t0 : vs 0 = .func (.func 55) #[] #[.pointer (some ⟨q + 2, 0, none⟩), .pointer (some ⟨q, 0, none⟩), .pointer (some ⟨q + 1, 0, none⟩)] := hT 0 (by decide)
        have t1 : vs 1 = .int .i64 i := hT 1 (by decide)
        have t2 : vs 2 = .int .i64 ((i : Int) - 1) := hT 2 (by decide)
        have HG := Lib.hid hG
        clear hG
        simp only [t0, t1, t2] at hK
        have H := Lib.hid hK
        clear hK hT
        go_simp
        refine (CB.out W ((Below.refl _ _).drew.ext HG.out)).mono ?_
        rintro e w6 ⟨rfl, b6⟩
        exact H.out _ _ b6 rfl (fun h => by cases h) trivial
      refine Rg.cons 4 5 rfl (Rg.plain rfl ?_) ?_
      · intro vs W n hn hI hG hT hF K hK
        simp only [Rg.putsD, List.getD_cons_zero, List.getD_cons_succ, Act.put, List.setIfInBounds_toArray, List.set_cons_zero, List.set_cons_succ] at hK ⊢
        clear hn
        clear hF hI
        have c0 := cell_of_blk (blk_below hG (HS.out.below (Below.refl _ _).drew).k3) 0
        simp [atF] at c0
        have H := Lib.hid hK
        clear hK hT
        go_simp
        exact H.out _ _ (Below.refl _ _) rfl (fun h => by cases h) trivial
      refine Rg.cons 5 6 rfl (Rg.plain rfl ?_) ?_
      · intro vs W n hn hI hG hT hF K hK
        simp only [Rg.putsD, List.getD_cons_zero, List.getD_cons_succ, Act.put, List.setIfInBounds_toArray, List.set_cons_zero, List.set_cons_succ] at hK ⊢
        clear hn
        clear hF hI
        have H := Lib.hid hK
        clear hK hT
        go_simp
        exact H.out _ _ (Below.refl _ _) rfl (fun h => by cases h) trivial
      refine Rg.cons 6 7 rfl (Rg.plain rfl ?_) ?_
      · intro vs W n hn hI hG hT hF K hK
        simp only [Rg.putsD, List.getD_cons_zero, List.getD_cons_succ, Act.put, List.setIfInBounds_toArray, List.set_cons_zero, List.set_cons_succ] at hK ⊢
        clear hn
        clear hF hI
        have t0 : vs 0 = .func (.func 55) #[] #[.pointer (some ⟨q + 2, 0, none⟩), .pointer (some ⟨q, 0, none⟩), .pointer (some ⟨q + 1, 0, none⟩)] := hT 0 (by decide)
        have t1 : vs 1 = .int .i64 i := hT 1 (by decide)
        have t2 : vs 2 = .int .i64 ((i : Int) - 1) := hT 2 (by decide)
        have t3 : vs 3 = .agg #[.int .i64 pbx, .int .i64 pby] := hT 3 (by decide)
        have t4 : vs 4 = .func (.func 55) #[] #[.pointer (some ⟨q + 2, 0, none⟩), .pointer (some ⟨q, 0, none⟩), .pointer (some ⟨q + 1, 0, none⟩)] := hT 4 (by decide)
        have t5 : vs 5 = .int .i64 i := hT 5 (by decide)
        have HG := Lib.hid hG
        clear hG
        simp only [t0, t1, t2, t3, t4, t5] at hK
        have H := Lib.hid hK
        clear hK hT
        go_simp
        refine (CF.out W ((Below.refl _ _).drew.ext HG.out)).mono ?_
        rintro e w6 ⟨rfl, b6⟩
        exact H.out _ _ b6 rfl (fun h => by cases h) trivial
      refine Rg.cons 7 8 rfl (Rg.plain rfl ?_) ?_
      · intro vs W n hn hI hG hT hF K hK
        simp only [Rg.putsD, List.getD_cons_zero, List.getD_cons_succ, Act.put, List.setIfInBounds_toArray, List.set_cons_zero, List.set_cons_succ] at hK ⊢
        clear hn
        clear hF hI
        have c0 := cell_of_blk (blk_below hG (HS.out.below (Below.refl _ _).drew).k3) 0
        simp [atF] at c0
        have H := Lib.hid hK
        clear hK hT
        go_simp
        exact H.out _ _ (Below.refl _ _) rfl (fun h => by cases h) trivial
      refine Rg.cons 8 9 rfl (Rg.plain rfl ?_) ?_
      · intro vs W n hn hI hG hT hF K hK
        simp only [Rg.putsD, List.getD_cons_zero, List.getD_cons_succ, Act.put, List.setIfInBounds_toArray, List.set_cons_zero, List.set_cons_succ] at hK ⊢
        clear hn
        clear hF hI
        have H := Lib.hid hK
        clear hK hT
        go_simp
        exact H.out _ _ (Below.refl _ _) rfl (fun h => by cases h) trivial
      refine Rg.cons 9 10 rfl (Rg.plain rfl ?_) ?_
      · intro vs W n hn hI hG hT hF K hK
        simp only [Rg.putsD, List.getD_cons_zero, List.getD_cons_succ, Act.put, List.setIfInBounds_toArray, List.set_cons_zero, List.set_cons_succ] at hK ⊢
        clear hn
        clear hF hI
        have t0 : vs 0 = .func (.func 55) #[] #[.pointer (some ⟨q + 2, 0, none⟩), .pointer (some ⟨q, 0, none⟩), .pointer (some ⟨q + 1, 0, none⟩)] := hT 0 (by decide)
        have t1 : vs 1 = .int .i64 i := hT 1 (by decide)
        have t2 : vs 2 = .int .i64 ((i : Int) - 1) := hT 2 (by decide)
        have t3 : vs 3 = .agg #[.int .i64 pbx, .int .i64 pby] := hT 3 (by decide)
        have t4 : vs 4 = .func (.func 55) #[] #[.pointer (some ⟨q + 2, 0, none⟩), .pointer (some ⟨q, 0, none⟩), .pointer (some ⟨q + 1, 0, none⟩)] := hT 4 (by decide)
        have t5 : vs 5 = .int .i64 i := hT 5 (by decide)
        have t6 : vs 6 = .agg #[.int .i64 pfx, .int .i64 pfy] := hT 6 (by decide)
        have t7 : vs 7 = .func (.func 55) #[] #[.pointer (some ⟨q + 2, 0, none⟩), .pointer (some ⟨q, 0, none⟩), .pointer (some ⟨q + 1, 0, none⟩)] := hT 7 (by decide)
        have t8 : vs 8 = .int .i64 k := hT 8 (by decide)
        have HG := Lib.hid hG
        clear hG
        simp only [t0, t1, t2, t3, t4, t5, t6, t7, t8] at hK
        have H := Lib.hid hK
        clear hK hT
        go_simp
        refine (CL.out W ((Below.refl _ _).drew.ext HG.out)).mono ?_
        rintro e w6 ⟨rfl, b6⟩
        exact H.out _ _ b6 rfl (fun h => by cases h) trivial
      refine Rg.cons 10 11 rfl (Rg.plain rfl ?_) ?_
      · intro vs W n hn hI hG hT hF K hK
        simp only [Rg.putsD, List.getD_cons_zero, List.getD_cons_succ, Act.put, List.setIfInBounds_toArray, List.set_cons_zero, List.set_cons_succ] at hK ⊢
        clear hn
        clear hF hI
        have c0 := cell_of_blk (blk_below hG (HS.out.below (Below.refl _ _).drew).k3) 0
        simp [atF] at c0
        have H := Lib.hid hK
        clear hK hT
        go_simp
        exact H.out _ _ (Below.refl _ _) rfl (fun h => by cases h) trivial
      refine Rg.cons 11 12 rfl (Rg.plain rfl ?_) ?_
      · intro vs W n hn hI hG hT hF K hK
        simp only [Rg.putsD, List.getD_cons_zero, List.getD_cons_succ, Act.put, List.setIfInBounds_toArray, List.set_cons_zero, List.set_cons_succ] at hK ⊢
        clear hn
        clear hF hI
        have H := Lib.hid hK
        clear hK hT
        go_simp
        exact H.out _ _ (Below.refl _ _) rfl (fun h => by cases h) trivial
      refine Rg.cons 12 13 rfl (Rg.plain rfl ?_) ?_
      · intro vs W n hn hI hG hT hF K hK
        simp only [Rg.putsD, List.getD_cons_zero, List.getD_cons_succ, Act.put, List.setIfInBounds_toArray, List.set_cons_zero, List.set_cons_succ] at hK ⊢
        clear hn
        clear hF hI
        have t11 : vs 11 = .int .i64 k := hT 11 (by decide)
        simp only [t11] at hK
        have H := Lib.hid hK
        clear hK hT
        go_simp
        exact H.out _ _ (Below.refl _ _) rfl (fun h => by cases h) trivial
      refine Rg.cons 13 14 rfl (Rg.plain rfl ?_) ?_
      · intro vs W n hn hI hG hT hF K hK
        simp only [Rg.putsD, List.getD_cons_zero, List.getD_cons_succ, Act.put, List.setIfInBounds_toArray, List.set_cons_zero, List.set_cons_succ] at hK ⊢
        clear hn
        clear hF hI
        have t0 : vs 0 = .func (.func 55) #[] #[.pointer (some ⟨q + 2, 0, none⟩), .pointer (some ⟨q, 0, none⟩), .pointer (some ⟨q + 1, 0, none⟩)] := hT 0 (by decide)
        have t1 : vs 1 = .int .i64 i := hT 1 (by decide)
        have t2 : vs 2 = .int .i64 ((i : Int) - 1) := hT 2 (by decide)
        have t3 : vs 3 = .agg #[.int .i64 pbx, .int .i64 pby] := hT 3 (by decide)
        have t4 : vs 4 = .func (.func 55) #[] #[.pointer (some ⟨q + 2, 0, none⟩), .pointer (some ⟨q, 0, none⟩), .pointer (some ⟨q + 1, 0, none⟩)] := hT 4 (by decide)
        have t5 : vs 5 = .int .i64 i := hT 5 (by decide)
        have t6 : vs 6 = .agg #[.int .i64 pfx, .int .i64 pfy] := hT 6 (by decide)
        have t7 : vs 7 = .func (.func 55) #[] #[.pointer (some ⟨q + 2, 0, none⟩), .pointer (some ⟨q, 0, none⟩), .pointer (some ⟨q + 1, 0, none⟩)] := hT 7 (by decide)
        have t8 : vs 8 = .int .i64 k := hT 8 (by decide)
        have t9 : vs 9 = .agg #[.int .i64 plx, .int .i64 ply] := hT 9 (by decide)
        have t10 : vs 10 = .func (.func 55) #[] #[.pointer (some ⟨q + 2, 0, none⟩), .pointer (some ⟨q, 0, none⟩), .pointer (some ⟨q + 1, 0, none⟩)] := hT 10 (by decide)
        have t11 : vs 11 = .int .i64 k := hT 11 (by decide)
        have t12 : vs 12 = .int .i64 ((k : Int) + 1) := hT 12 (by decide)
        have HG := Lib.hid hG
        clear hG
        simp only [t0, t1, t2, t3, t4, t5, t6, t7, t8, t9, t10, t11, t12] at hK
        have H := Lib.hid hK
        clear hK hT
        go_simp
        refine (CE.out W ((Below.refl _ _).drew.ext HG.out)).mono ?_
        rintro e w6 ⟨rfl, b6⟩
        exact H.out _ _ b6 rfl (fun h => by cases h) trivial
      refine Rg.cons 14 15 rfl (Rg.plain rfl ?_) ?_
      · intro vs W n hn hI hG hT hF K hK
        simp only [Rg.putsD, List.getD_cons_zero, List.getD_cons_succ, Act.put, List.setIfInBounds_toArray, List.set_cons_zero, List.set_cons_succ] at hK ⊢
        clear hn
        clear hF hI
        have H := Lib.hid hK
        clear hK hT
        go_simp
        exact H.out _ _ ((Below.refl _ _).alloc (Nat.le_refl _) _) (show ∃ b : Nat, _ = _ ∧ _ = _ from ⟨_, rfl, blk_new W _ rfl⟩) (fun _ => ⟨W.heap.size, rfl, Nat.le_refl _, by simp⟩) trivial
      refine Rg.cons 15 16 rfl (Rg.plain rfl ?_) ?_
      · intro vs W n hn hI hG hT hF K hK
        simp only [Rg.putsD, List.getD_cons_zero, List.getD_cons_succ, Act.put, List.setIfInBounds_toArray, List.set_cons_zero, List.set_cons_succ] at hK ⊢
        clear hn
        clear hF hI
        have H := Lib.hid hK
        clear hK hT
        go_simp
        exact H.out _ _ ((Below.refl _ _).alloc (Nat.le_refl _) _) (show ∃ b : Nat, _ = _ ∧ _ = _ from ⟨_, rfl, blk_new W _ rfl⟩) (fun _ => ⟨W.heap.size, rfl, Nat.le_refl _, by simp⟩) trivial
      refine Rg.cons 16 17 rfl (Rg.plain rfl ?_) ?_
      · intro vs W n hn hI hG hT hF K hK
        simp only [Rg.putsD, List.getD_cons_zero, List.getD_cons_succ, Act.put, List.setIfInBounds_toArray, List.set_cons_zero, List.set_cons_succ] at hK ⊢
        clear hn
        clear hF hI
        have H := Lib.hid hK
        clear hK hT
        go_simp
        exact H.out _ _ ((Below.refl _ _).alloc (Nat.le_refl _) _) (show ∃ b : Nat, _ = _ ∧ _ = _ from ⟨_, rfl, blk_new W _ rfl⟩) (fun _ => ⟨W.heap.size, rfl, Nat.le_refl _, by simp⟩) trivial
      refine Rg.cons 17 18 rfl (Rg.plain rfl ?_) ?_
      · intro vs W n hn hI hG hT hF K hK
        simp only [Rg.putsD, List.getD_cons_zero, List.getD_cons_succ, Act.put, List.setIfInBounds_toArray, List.set_cons_zero, List.set_cons_succ] at hK ⊢
        clear hn
        clear hF hI
        have H := Lib.hid hK
        clear hK hT
        go_simp
        exact H.out _ _ ((Below.refl _ _).alloc (Nat.le_refl _) _) (show ∃ b : Nat, _ = _ ∧ _ = _ from ⟨_, rfl, blk_new W _ rfl⟩) (fun _ => ⟨W.heap.size, rfl, Nat.le_refl _, by simp⟩) trivial
      exact Rg.nil
    · intro vs W hG hI hT hF
      have t0 : vs 0 = .func (.func 55) #[] #[.pointer (some ⟨q + 2, 0, none⟩), .pointer (some ⟨q, 0, none⟩), .pointer (some ⟨q + 1, 0, none⟩)] := hT 0 (by decide)
      have t1 : vs 1 = .int .i64 i := hT 1 (by decide)
      have t2 : vs 2 = .int .i64 ((i : Int) - 1) := hT 2 (by decide)
      have t3 : vs 3 = .agg #[.int .i64 pbx, .int .i64 pby] := hT 3 (by decide)
      have t4 : vs 4 = .func (.func 55) #[] #[.pointer (some ⟨q + 2, 0, none⟩), .pointer (some ⟨q, 0, none⟩), .pointer (some ⟨q + 1, 0, none⟩)] := hT 4 (by decide)
      have t5 : vs 5 = .int .i64 i := hT 5 (by decide)
      have t6 : vs 6 = .agg #[.int .i64 pfx, .int .i64 pfy] := hT 6 (by decide)
      have t7 : vs 7 = .func (.func 55) #[] #[.pointer (some ⟨q + 2, 0, none⟩), .pointer (some ⟨q, 0, none⟩), .pointer (some ⟨q + 1, 0, none⟩)] := hT 7 (by decide)
      have t8 : vs 8 = .int .i64 k := hT 8 (by decide)
      have t9 : vs 9 = .agg #[.int .i64 plx, .int .i64 ply] := hT 9 (by decide)
      have t10 : vs 10 = .func (.func 55) #[] #[.pointer (some ⟨q + 2, 0, none⟩), .pointer (some ⟨q, 0, none⟩), .pointer (some ⟨q + 1, 0, none⟩)] := hT 10 (by decide)
      have t11 : vs 11 = .int .i64 k := hT 11 (by decide)
      have t12 : vs 12 = .int .i64 ((k : Int) + 1) := hT 12 (by decide)
      have t13 : vs 13 = .agg #[.int .i64 pex, .int .i64 pey] := hT 13 (by decide)
      have t14 : ∃ b : Nat, vs 14 = .pointer (some ⟨b, 0, none⟩) ∧ W.heap[b]? = some (.cells #[.int .i64 0, .int .i64 0] 27 (0, 0)) := hT 14 (by decide)
      have t15 : ∃ b : Nat, vs 15 = .pointer (some ⟨b, 0, none⟩) ∧ W.heap[b]? = some (.cells #[.int .i64 0, .int .i64 0] 27 (0, 0)) := hT 15 (by decide)
      have t16 : ∃ b : Nat, vs 16 = .pointer (some ⟨b, 0, none⟩) ∧ W.heap[b]? = some (.cells #[.int .i64 0, .int .i64 0] 27 (0, 0)) := hT 16 (by decide)
      have t17 : ∃ b : Nat, vs 17 = .pointer (some ⟨b, 0, none⟩) ∧ W.heap[b]? = some (.cells #[.int .i64 0, .int .i64 0] 27 (0, 0)) := hT 17 (by decide)
      simp only [List.length_cons, List.length_nil, Nat.reduceAdd, List.range, List.range.loop, List.drop_succ_cons, List.drop_zero, Rg.putsD, List.getD_cons_zero, List.getD_cons_succ, Act.put, List.setIfInBounds_toArray, List.set_cons_zero, List.set_cons_succ, t0, t1, t2, t3, t4, t5, t6, t7, t8, t9, t10, t11, t12, t13]
      clear hT t0 t1 t2 t3 t4 t5 t6 t7 t8 t9 t10 t11 t12 t13
      have hb : Below w.heap.size w W := (Below.refl _ _).drew.ext hG
      obtain ⟨g6, e6, k6⟩ := t14
      obtain ⟨g7, e7, k7⟩ := t15
      obtain ⟨g8, e8, k8⟩ := t16
      obtain ⟨g9, e9, k9⟩ := t17
      have n67 := hF.2 14 (by decide) 15 (by decide) (by decide) (by decide) (by decide)
      have n68 := hF.2 14 (by decide) 16 (by decide) (by decide) (by decide) (by decide)
      have n69 := hF.2 14 (by decide) 17 (by decide) (by decide) (by decide) (by decide)
      have n78 := hF.2 15 (by decide) 16 (by decide) (by decide) (by decide) (by decide)
      have n79 := hF.2 15 (by decide) 17 (by decide) (by decide) (by decide) (by decide)
      have n89 := hF.2 16 (by decide) 17 (by decide) (by decide) (by decide) (by decide)
      obtain ⟨_, q6, l6, _⟩ := hF.1 14 (by decide) (by decide)
      obtain ⟨_, q7, l7, _⟩ := hF.1 15 (by decide) (by decide)
      obtain ⟨_, q8, l8, _⟩ := hF.1 16 (by decide) (by decide)
      obtain ⟨_, q9, l9, _⟩ := hF.1 17 (by decide) (by decide)
      simp only [e6, e7, e8, e9, Rg.blockOf, ne_eq, Option.some.injEq] at n67 n68 n69 n78 n79 n89 q6 q7 q8 q9
      subst q6 q7 q8 q9
      have z6 : w.heap.size ≤ g6 := l6
      have z7 : w.heap.size ≤ g7 := l7
      have z8 : w.heap.size ≤ g8 := l8
      have z9 : w.heap.size ≤ g9 := l9
      simp only [e6, e7, e8, e9]
      obtain ⟨c60, c61, f60, f61⟩ := blk2 k6
      obtain ⟨c70, c71, f70, f71⟩ := blk2 k7
      obtain ⟨c80, c81, f80, f81⟩ := blk2 k8
      obtain ⟨c90, c91, f90, f91⟩ := blk2 k9
      have K6 := Lib.hid k6
      have K7 := Lib.hid k7
      have K8 := Lib.hid k8
      have K9 := Lib.hid k9
      clear e6 e7 e8 e9 k6 k7 k8 k9 hF hG hI l6 l7 l8 l9 CB CF CL CE CD1 CD2 CD3 CD4 HW
      go_wp2_with fail
      go_meet
      refine ⟨g6, g7, g8, g9, rfl, rfl, rfl, rfl, ?_, ?_, ?_, ?_, ?_⟩
      · exact blk_far (blk_far (blk_far (blk_far (blk_far (blk_far (blk_set (blk_set K6.out _) _) n67 _) n67 _) n68 _) n68 _) n69 _) n69 _
      · exact blk_far (blk_far (blk_far (blk_far (blk_set (blk_set (blk_far (blk_far K7.out (Ne.symm n67) _) (Ne.symm n67) _) _) _) n78 _) n78 _) n79 _) n79 _
      · exact blk_far (blk_far (blk_set (blk_set (blk_far (blk_far (blk_far (blk_far K8.out (Ne.symm n68) _) (Ne.symm n68) _) (Ne.symm n78) _) (Ne.symm n78) _) _) _) n89 _) n89 _
      · exact blk_set (blk_set (blk_far (blk_far (blk_far (blk_far (blk_far (blk_far K9.out (Ne.symm n69) _) (Ne.symm n69) _) (Ne.symm n79) _) (Ne.symm n79) _) (Ne.symm n89) _) (Ne.symm n89) _) _) _
      · exact (((((((hb.setCell z6 _).setCell z6 _).setCell z7 _).setCell z7 _).setCell z8 _).setCell z8 _).setCell z9 _).setCell z9 _
  case rest =>
    obtain ⟨g6, g7, g8, g9, rfl, rfl, rfl, rfl, HC⟩ := hcut
    have w1 : IntKind.i64.wrap (d1 + d2) = d1 + d2 := IntWalk.i64_in _ (by omega)
    have w2 : IntKind.i64.wrap (d3 + d4) = d3 + d4 := IntWalk.i64_in _ (by omega)
    clear CB CF CL CE HS
    go_upto_region 2 with (fail)
    refine Rg.rgL (fun a b => Below a.heap.size a b)
      [(fun vs u => vs 0 = .agg #[.int .i64 pbx, .int .i64 pby]), (fun vs u => vs 1 = .agg #[.int .i64 plx, .int .i64 ply]), (fun vs u => vs 2 = .int .i64 d1), (fun vs u => vs 3 = .agg #[.int .i64 pfx, .int .i64 pfy]), (fun vs u => vs 4 = .agg #[.int .i64 pex, .int .i64 pey]), (fun vs u => vs 5 = .int .i64 d2), (fun vs u => vs 6 = .int .i64 (d1 + d2)), (fun vs u => vs 7 = .agg #[.int .i64 pbx, .int .i64 pby]), (fun vs u => vs 8 = .agg #[.int .i64 pfx, .int .i64 pfy]), (fun vs u => vs 9 = .int .i64 d3), (fun vs u => vs 10 = .agg #[.int .i64 plx, .int .i64 ply]), (fun vs u => vs 11 = .agg #[.int .i64 pex, .int .i64 pey]), (fun vs u => vs 12 = .int .i64 d4), (fun vs u => vs 13 = .int .i64 (d3 + d4))]
      [[], [], [0, 1], [], [], [0, 1, 2, 3, 4], [0, 1, 2, 3, 4, 5], [], [], [0, 1, 2, 3, 4, 5, 7, 8], [], [], [0, 1, 2, 3, 4, 5, 7, 8, 9, 10, 11], [0, 1, 2, 3, 4, 5, 7, 8, 9, 10, 11, 12]] [some 24, some 25, some 26, some 27, some 28, some 29, some 30, some 31, some 32, some 33, some 34, some 35, some 36, some 37, some 38, some 5] [] (fun _ _ => True) [[], [], [0, 1], [], [], [0, 1, 2, 3, 4], [0, 1, 2, 3, 4, 5], [], [], [0, 1, 2, 3, 4, 5, 7, 8], [], [], [0, 1, 2, 3, 4, 5, 7, 8, 9, 10, 11], [0, 1, 2, 3, 4, 5, 7, 8, 9, 10, 11, 12], [0, 1, 2, 3, 4, 5, 6, 7, 8, 9, 10, 11, 12, 13], [0, 1, 2, 3, 4, 5, 6, 7, 8, 9, 10, 11, 12, 13, 14]]
      (by kernel_rfl) (by decide) (by kernel_rfl) (by kernel_rfl) (by kernel_rfl) (by kernel_rfl) (by kernel_rfl) (fun _ => Below.refl _ _) (fun _ _ _ h k => h.ext k) (fun _ _ h => h.size) ?_ trivial ?_ ?_
    · intro t ht vs w w' h hE
      simp only [List.mem_cons, List.not_mem_nil, or_false] at ht
      rcases ht with rfl | rfl | rfl | rfl | rfl | rfl | rfl | rfl | rfl | rfl | rfl | rfl | rfl | rfl
      · exact h
      · exact h
      · exact h
      · exact h
      · exact h
      · exact h
      · exact h
      · exact h
      · exact h
      · exact h
      · exact h
      · exact h
      · exact h
      · exact h
    ·
      refine Rg.cons 0 1 rfl (Rg.plain rfl ?_) ?_
      · intro vs W n hn hI hG hT hF K hK
        simp only [Rg.putsD, List.getD_cons_zero, List.getD_cons_succ, Act.put, List.setIfInBounds_toArray, List.set_cons_zero, List.set_cons_succ] at hK ⊢
        clear hn
        clear hF hI
        obtain ⟨c0, c1, _, _⟩ := blk2 (blk_below hG HC.out.1)
        have hgl := lt_of_blk (blk_below hG HC.out.1)
        have H := Lib.hid hK
        clear hK hT
        go_simp
        exact H.out _ _ (Below.refl _ _) rfl (fun h => by cases h) trivial
      refine Rg.cons 1 2 rfl (Rg.plain rfl ?_) ?_
      · intro vs W n hn hI hG hT hF K hK
        simp only [Rg.putsD, List.getD_cons_zero, List.getD_cons_succ, Act.put, List.setIfInBounds_toArray, List.set_cons_zero, List.set_cons_succ] at hK ⊢
        clear hn
        clear hF hI
        obtain ⟨c0, c1, _, _⟩ := blk2 (blk_below hG HC.out.2.2.1)
        have hgl := lt_of_blk (blk_below hG HC.out.2.2.1)
        have H := Lib.hid hK
        clear hK hT
        go_simp
        exact H.out _ _ (Below.refl _ _) rfl (fun h => by cases h) trivial
      refine Rg.cons 2 3 rfl (Rg.plain rfl ?_) ?_
      · intro vs W n hn hI hG hT hF K hK
        simp only [Rg.putsD, List.getD_cons_zero, List.getD_cons_succ, Act.put, List.setIfInBounds_toArray, List.set_cons_zero, List.set_cons_succ] at hK ⊢
        clear hn
        clear hF hI
        have t0 : vs 0 = .agg #[.int .i64 pbx, .int .i64 pby] := hT 0 (by decide)
        have t1 : vs 1 = .agg #[.int .i64 plx, .int .i64 ply] := hT 1 (by decide)
        simp only [t0, t1] at hK
        have H := Lib.hid hK
        clear hK hT
        go_simp
        refine (CD1.out _).mono ?_
        rintro e w6 ⟨rfl, b6⟩
        exact H.out _ _ b6 rfl (fun h => by cases h) trivial
      refine Rg.cons 3 4 rfl (Rg.plain rfl ?_) ?_
      · intro vs W n hn hI hG hT hF K hK
        simp only [Rg.putsD, List.getD_cons_zero, List.getD_cons_succ, Act.put, List.setIfInBounds_toArray, List.set_cons_zero, List.set_cons_succ] at hK ⊢
        clear hn
        clear hF hI
        obtain ⟨c0, c1, _, _⟩ := blk2 (blk_below hG HC.out.2.1)
        have hgl := lt_of_blk (blk_below hG HC.out.2.1)
        have H := Lib.hid hK
        clear hK hT
        go_simp
        exact H.out _ _ (Below.refl _ _) rfl (fun h => by cases h) trivial
      refine Rg.cons 4 5 rfl (Rg.plain rfl ?_) ?_
      · intro vs W n hn hI hG hT hF K hK
        simp only [Rg.putsD, List.getD_cons_zero, List.getD_cons_succ, Act.put, List.setIfInBounds_toArray, List.set_cons_zero, List.set_cons_succ] at hK ⊢
        clear hn
        clear hF hI
        obtain ⟨c0, c1, _, _⟩ := blk2 (blk_below hG HC.out.2.2.2.1)
        have hgl := lt_of_blk (blk_below hG HC.out.2.2.2.1)
        have H := Lib.hid hK
        clear hK hT
        go_simp
        exact H.out _ _ (Below.refl _ _) rfl (fun h => by cases h) trivial
      refine Rg.cons 5 6 rfl (Rg.plain rfl ?_) ?_
      · intro vs W n hn hI hG hT hF K hK
        simp only [Rg.putsD, List.getD_cons_zero, List.getD_cons_succ, Act.put, List.setIfInBounds_toArray, List.set_cons_zero, List.set_cons_succ] at hK ⊢
        clear hn
        clear hF hI
        have t0 : vs 0 = .agg #[.int .i64 pbx, .int .i64 pby] := hT 0 (by decide)
        have t1 : vs 1 = .agg #[.int .i64 plx, .int .i64 ply] := hT 1 (by decide)
        have t2 : vs 2 = .int .i64 d1 := hT 2 (by decide)
        have t3 : vs 3 = .agg #[.int .i64 pfx, .int .i64 pfy] := hT 3 (by decide)
        have t4 : vs 4 = .agg #[.int .i64 pex, .int .i64 pey] := hT 4 (by decide)
        simp only [t0, t1, t2, t3, t4] at hK
        have H := Lib.hid hK
        clear hK hT
        go_simp
        refine (CD2.out _).mono ?_
        rintro e w6 ⟨rfl, b6⟩
        exact H.out _ _ b6 rfl (fun h => by cases h) trivial
      refine Rg.cons 6 7 rfl (Rg.plain rfl ?_) ?_
      · intro vs W n hn hI hG hT hF K hK
        simp only [Rg.putsD, List.getD_cons_zero, List.getD_cons_succ, Act.put, List.setIfInBounds_toArray, List.set_cons_zero, List.set_cons_succ] at hK ⊢
        clear hn
        clear hF hI
        have t0 : vs 0 = .agg #[.int .i64 pbx, .int .i64 pby] := hT 0 (by decide)
        have t1 : vs 1 = .agg #[.int .i64 plx, .int .i64 ply] := hT 1 (by decide)
        have t2 : vs 2 = .int .i64 d1 := hT 2 (by decide)
        have t3 : vs 3 = .agg #[.int .i64 pfx, .int .i64 pfy] := hT 3 (by decide)
        have t4 : vs 4 = .agg #[.int .i64 pex, .int .i64 pey] := hT 4 (by decide)
        have t5 : vs 5 = .int .i64 d2 := hT 5 (by decide)
        simp only [t0, t1, t2, t3, t4, t5] at hK
        have H := Lib.hid hK
        clear hK hT
        go_simp
        exact H.out _ _ (Below.refl _ _) rfl (fun h => by cases h) trivial
      refine Rg.cons 7 8 rfl (Rg.plain rfl ?_) ?_
      · intro vs W n hn hI hG hT hF K hK
        simp only [Rg.putsD, List.getD_cons_zero, List.getD_cons_succ, Act.put, List.setIfInBounds_toArray, List.set_cons_zero, List.set_cons_succ] at hK ⊢
        clear hn
        clear hF hI
        obtain ⟨c0, c1, _, _⟩ := blk2 (blk_below hG HC.out.1)
        have hgl := lt_of_blk (blk_below hG HC.out.1)
        have H := Lib.hid hK
        clear hK hT
        go_simp
        exact H.out _ _ (Below.refl _ _) rfl (fun h => by cases h) trivial
      refine Rg.cons 8 9 rfl (Rg.plain rfl ?_) ?_
      · intro vs W n hn hI hG hT hF K hK
        simp only [Rg.putsD, List.getD_cons_zero, List.getD_cons_succ, Act.put, List.setIfInBounds_toArray, List.set_cons_zero, List.set_cons_succ] at hK ⊢
        clear hn
        clear hF hI
        obtain ⟨c0, c1, _, _⟩ := blk2 (blk_below hG HC.out.2.1)
        have hgl := lt_of_blk (blk_below hG HC.out.2.1)
        have H := Lib.hid hK
        clear hK hT
        go_simp
        exact H.out _ _ (Below.refl _ _) rfl (fun h => by cases h) trivial
      refine Rg.cons 9 10 rfl (Rg.plain rfl ?_) ?_
      · intro vs W n hn hI hG hT hF K hK
        simp only [Rg.putsD, List.getD_cons_zero, List.getD_cons_succ, Act.put, List.setIfInBounds_toArray, List.set_cons_zero, List.set_cons_succ] at hK ⊢
        clear hn
        clear hF hI
        have t0 : vs 0 = .agg #[.int .i64 pbx, .int .i64 pby] := hT 0 (by decide)
        have t1 : vs 1 = .agg #[.int .i64 plx, .int .i64 ply] := hT 1 (by decide)
        have t2 : vs 2 = .int .i64 d1 := hT 2 (by decide)
        have t3 : vs 3 = .agg #[.int .i64 pfx, .int .i64 pfy] := hT 3 (by decide)
        have t4 : vs 4 = .agg #[.int .i64 pex, .int .i64 pey] := hT 4 (by decide)
        have t5 : vs 5 = .int .i64 d2 := hT 5 (by decide)
        have t7 : vs 7 = .agg #[.int .i64 pbx, .int .i64 pby] := hT 7 (by decide)
        have t8 : vs 8 = .agg #[.int .i64 pfx, .int .i64 pfy] := hT 8 (by decide)
        simp only [t0, t1, t2, t3, t4, t5, t7, t8] at hK
        have H := Lib.hid hK
        clear hK hT
        go_simp
        refine (CD3.out _).mono ?_
        rintro e w6 ⟨rfl, b6⟩
        exact H.out _ _ b6 rfl (fun h => by cases h) trivial
      refine Rg.cons 10 11 rfl (Rg.plain rfl ?_) ?_
      · intro vs W n hn hI hG hT hF K hK
        simp only [Rg.putsD, List.getD_cons_zero, List.getD_cons_succ, Act.put, List.setIfInBounds_toArray, List.set_cons_zero, List.set_cons_succ] at hK ⊢
        clear hn
        clear hF hI
        obtain ⟨c0, c1, _, _⟩ := blk2 (blk_below hG HC.out.2.2.1)
        have hgl := lt_of_blk (blk_below hG HC.out.2.2.1)
        have H := Lib.hid hK
        clear hK hT
        go_simp
        exact H.out _ _ (Below.refl _ _) rfl (fun h => by cases h) trivial
      refine Rg.cons 11 12 rfl (Rg.plain rfl ?_) ?_
      · intro vs W n hn hI hG hT hF K hK
        simp only [Rg.putsD, List.getD_cons_zero, List.getD_cons_succ, Act.put, List.setIfInBounds_toArray, List.set_cons_zero, List.set_cons_succ] at hK ⊢
        clear hn
        clear hF hI
        obtain ⟨c0, c1, _, _⟩ := blk2 (blk_below hG HC.out.2.2.2.1)
        have hgl := lt_of_blk (blk_below hG HC.out.2.2.2.1)
        have H := Lib.hid hK
        clear hK hT
        go_simp
        exact H.out _ _ (Below.refl _ _) rfl (fun h => by cases h) trivial
      refine Rg.cons 12 13 rfl (Rg.plain rfl ?_) ?_
      · intro vs W n hn hI hG hT hF K hK
        simp only [Rg.putsD, List.getD_cons_zero, List.getD_cons_succ, Act.put, List.setIfInBounds_toArray, List.set_cons_zero, List.set_cons_succ] at hK ⊢
        clear hn
        clear hF hI
        have t0 : vs 0 = .agg #[.int .i64 pbx, .int .i64 pby] := hT 0 (by decide)
        have t1 : vs 1 = .agg #[.int .i64 plx, .int .i64 ply] := hT 1 (by decide)
        have t2 : vs 2 = .int .i64 d1 := hT 2 (by decide)
        have t3 : vs 3 = .agg #[.int .i64 pfx, .int .i64 pfy] := hT 3 (by decide)
        have t4 : vs 4 = .agg #[.int .i64 pex, .int .i64 pey] := hT 4 (by decide)
        have t5 : vs 5 = .int .i64 d2 := hT 5 (by decide)
        have t7 : vs 7 = .agg #[.int .i64 pbx, .int .i64 pby] := hT 7 (by decide)
        have t8 : vs 8 = .agg #[.int .i64 pfx, .int .i64 pfy] := hT 8 (by decide)
        have t9 : vs 9 = .int .i64 d3 := hT 9 (by decide)
        have t10 : vs 10 = .agg #[.int .i64 plx, .int .i64 ply] := hT 10 (by decide)
        have t11 : vs 11 = .agg #[.int .i64 pex, .int .i64 pey] := hT 11 (by decide)
        simp only [t0, t1, t2, t3, t4, t5, t7, t8, t9, t10, t11] at hK
        have H := Lib.hid hK
        clear hK hT
        go_simp
        refine (CD4.out _).mono ?_
        rintro e w6 ⟨rfl, b6⟩
        exact H.out _ _ b6 rfl (fun h => by cases h) trivial
      refine Rg.cons 13 14 rfl (Rg.plain rfl ?_) ?_
      · intro vs W n hn hI hG hT hF K hK
        simp only [Rg.putsD, List.getD_cons_zero, List.getD_cons_succ, Act.put, List.setIfInBounds_toArray, List.set_cons_zero, List.set_cons_succ] at hK ⊢
        clear hn
        clear hF hI
        have t0 : vs 0 = .agg #[.int .i64 pbx, .int .i64 pby] := hT 0 (by decide)
        have t1 : vs 1 = .agg #[.int .i64 plx, .int .i64 ply] := hT 1 (by decide)
        have t2 : vs 2 = .int .i64 d1 := hT 2 (by decide)
        have t3 : vs 3 = .agg #[.int .i64 pfx, .int .i64 pfy] := hT 3 (by decide)
        have t4 : vs 4 = .agg #[.int .i64 pex, .int .i64 pey] := hT 4 (by decide)
        have t5 : vs 5 = .int .i64 d2 := hT 5 (by decide)
        have t7 : vs 7 = .agg #[.int .i64 pbx, .int .i64 pby] := hT 7 (by decide)
        have t8 : vs 8 = .agg #[.int .i64 pfx, .int .i64 pfy] := hT 8 (by decide)
        have t9 : vs 9 = .int .i64 d3 := hT 9 (by decide)
        have t10 : vs 10 = .agg #[.int .i64 plx, .int .i64 ply] := hT 10 (by decide)
        have t11 : vs 11 = .agg #[.int .i64 pex, .int .i64 pey] := hT 11 (by decide)
        have t12 : vs 12 = .int .i64 d4 := hT 12 (by decide)
        simp only [t0, t1, t2, t3, t4, t5, t7, t8, t9, t10, t11, t12] at hK
        have H := Lib.hid hK
        clear hK hT
        go_simp
        exact H.out _ _ (Below.refl _ _) rfl (fun h => by cases h) trivial
      exact Rg.nil
    · intro vs W hG hI hT hF
      have t0 : vs 0 = .agg #[.int .i64 pbx, .int .i64 pby] := hT 0 (by decide)
      have t1 : vs 1 = .agg #[.int .i64 plx, .int .i64 ply] := hT 1 (by decide)
      have t2 : vs 2 = .int .i64 d1 := hT 2 (by decide)
      have t3 : vs 3 = .agg #[.int .i64 pfx, .int .i64 pfy] := hT 3 (by decide)
      have t4 : vs 4 = .agg #[.int .i64 pex, .int .i64 pey] := hT 4 (by decide)
      have t5 : vs 5 = .int .i64 d2 := hT 5 (by decide)
      have t6 : vs 6 = .int .i64 (d1 + d2) := hT 6 (by decide)
      have t7 : vs 7 = .agg #[.int .i64 pbx, .int .i64 pby] := hT 7 (by decide)
      have t8 : vs 8 = .agg #[.int .i64 pfx, .int .i64 pfy] := hT 8 (by decide)
      have t9 : vs 9 = .int .i64 d3 := hT 9 (by decide)
      have t10 : vs 10 = .agg #[.int .i64 plx, .int .i64 ply] := hT 10 (by decide)
      have t11 : vs 11 = .agg #[.int .i64 pex, .int .i64 pey] := hT 11 (by decide)
      have t12 : vs 12 = .int .i64 d4 := hT 12 (by decide)
      have t13 : vs 13 = .int .i64 (d3 + d4) := hT 13 (by decide)
      simp only [List.length_cons, List.length_nil, Nat.reduceAdd, List.range, List.range.loop, List.drop_succ_cons, List.drop_zero, Rg.putsD, List.getD_cons_zero, List.getD_cons_succ, Act.put, List.setIfInBounds_toArray, List.set_cons_zero, List.set_cons_succ, t0, t1, t2, t3, t4, t5, t6, t7, t8, t9, t10, t11, t12, t13]
      clear hT t0 t1 t2 t3 t4 t5 t6 t7 t8 t9 t10 t11 t12 t13
      have HB := Lib.hid ((HC.out.2.2.2.2.drew).ext hG)
      clear hG hF hI
      go_wp2_with fail
      refine bodyPost_ret (v := .bool (decide (d1 + d2 < d3 + d4))) (by unfold results; simp only [Try.results56]; go_simp) rfl ⟨by rw [HW.out], HB.out⟩
end Go.Proofs.Ytbkbjljkfhahbaa
