/-
  The program reads points.
-/
import Derived.Test.YtbkbjljkfhahbaaGreatDoorTpM
import Derived.Test.YtbkbjljkfhahbaaGreatDoorTxE
import Derived.Test.YtbkbjljkfhahbaaGreatDoorTxN
import Derived.Shelf.Abstract
namespace Go.Proofs.YtbkbjljkfhahbaaGreatDoor
open Go.RowKit
set_option linter.unusedSimpArgs false
set_option linter.unusedVariables false

/-- What has been read, in the block of the captured variable. -/
def PtAt (cb i : Nat) (st : List (Int × Int)) (w : World) : Prop :=
  ∃ v, w.heap[cb]? = some (.cells #[v] 42 (0, 0)) ∧ w.ownsRow (cb + 1) 45 2 v st.length (st.flatMap encP) ∧ st.length ≤ i
theorem PtAt.below {cb i : Nat} {st : List (Int × Int)} {w w' : World} (h : PtAt cb i st w) (hb : Below w.heap.size w w') : PtAt cb i st w' := by
  obtain ⟨v, h1, h2, h3⟩ := h
  exact ⟨v, blk_below hb h1, own_below h2 hb, h3⟩
theorem PtAt.lt {cb i : Nat} {st : List (Int × Int)} {w : World} (h : PtAt cb i st w) : cb < w.heap.size := by
  obtain ⟨v, h1, _⟩ := h
  exact lt_of_blk h1
theorem blk1 {w : World} {g : Nat} {a : Value} {t : TypeId} (h : w.heap[g]? = some (.cells #[a] t (0, 0))) : w.cell? ⟨g, 0, none⟩ = some a ∧ w.frozen? ⟨g, 0, none⟩ = false ∧ g < w.heap.size :=
  ⟨by rw [cell_of_blk h]; rfl, frozen_of_blk h 0, lt_of_blk h⟩

set_option maxRecDepth 100000 in
set_option maxHeartbeats 8000000 in
theorem ptRead_takes (cb base : Nat) (hcb : base ≤ cb) : Takes 67 cb base takePt (PtAt cb) := by
  intro i st ws v w0 w hi hne hl hz hd hbw hI hb hS0
  have hcb0 := hI.lt
  have hS := hS0.strs
  have CN := Lib.hid (numbers_any ws (by omega) (fun x hx => by have := hz x hx; omega) hS)
  have HI := Lib.hid (hI.below hb)
  have hww := hb.size
  clear hd hz
  obtain ⟨A, c, rfl, _⟩ := hS
  cases hn : numsB 15 ws
  · have HR := Lib.hid (@takePt_bad i st ws hn)
    rw [hn] at CN
    clear hn
    go_enter Tryz.func67, Tryz.ntmps67
    go_wp2_with fail
    refine CN.out.mono ?_
    rintro e w1 ⟨u, rfl, b1, _⟩
    have HB := Lib.hid (b1.mono (show base ≤ w.heap.size by omega))
    clear b1
    go_wp2_with fail
    go_ret
    exact ⟨by rw [HR.out]; rfl, HB.out, fun st' h => by rw [HR.out] at h; cases h⟩
  have HNB := Lib.hid hn
  rw [hn] at CN
  clear hn
  by_cases h2 : ws.length = 2
  rotate_left
  · have HR := Lib.hid (@takePt_len i st ws h2)
    have hnl : (numsI 15 ws).length = ws.length := by unfold numsI; rw [List.length_map]
    have hne2 : (((numsI 15 ws).length : Int) != 2) = true := by rw [hnl]; simp; omega
    go_enter Tryz.func67, Tryz.ntmps67
    go_wp2_with fail
    refine CN.out.mono ?_
    rintro e w1 ⟨u, rfl, b1, hu⟩
    obtain ⟨Au, cu, rfl, _, _⟩ := hu trivial
    have HB := Lib.hid (b1.mono (show base ≤ w.heap.size by omega))
    clear b1 hu
    go_wp2_with fail
    go_ret
    exact ⟨by rw [HR.out]; rfl, HB.out, fun st' h => by rw [HR.out] at h; cases h⟩
  obtain ⟨x, y, rfl⟩ : ∃ x y, ws = [x, y] := by
    match ws, h2 with
    | [a, b], _ => exact ⟨a, b, rfl⟩
  have HR := Lib.hid (@takePt_two i st x y HNB.out)
  rw [show numsI 15 [x, y] = [numI 15 x, numI 15 y] from rfl] at CN
  generalize numI 15 x = nx at *
  generalize numI 15 y = ny at *
  go_enter Tryz.func67, Tryz.ntmps67
  go_wp2_with fail
  refine CN.out.mono ?_
  rintro e w1 ⟨u, rfl, b1, hu⟩
  obtain ⟨Au, cu, rfl, hcu, hru⟩ := hu trivial
  obtain ⟨gn, rfl, hgn, hlu⟩ : ∃ gn : Nat, Au = some ⟨gn, 0, none⟩ ∧ w.heap.size ≤ gn ∧ LineAt w1 gn ([nx, ny].flatMap encZ) := by
    rcases hru with hru | hru
    · cases hru
    · exact hru
  have n0 : w1.cell? ⟨gn, 0, none⟩ = some (.int .i64 nx) := row_intz hlu (k := 0) (by simp)
  have n1 : w1.cell? ⟨gn, 1, none⟩ = some (.int .i64 ny) := row_intz hlu (k := 1) (by simp)
  have hgnl := hlu.1
  obtain ⟨vs, hp, hown, hpl⟩ := HI.out.below b1
  obtain ⟨Av, cv, rfl, hcv, _⟩ := own_slice' hown
  have H1 : Hid (Below base w w1 ∧ w1.heap[cb]? = some (.cells #[.slice Av st.length cv] 42 (0, 0)) ∧ w1.ownsRow (cb + 1) 45 2 (.slice Av st.length cv) st.length (st.flatMap encP)) :=
    ⟨b1.mono (by omega), hp, hown⟩
  obtain ⟨p0, p0f, hcbl⟩ := blk1 hp
  have hne1 : gn ≠ cb := by omega
  have hpl2 : st.length ≤ 200000 := by omega
  obtain ⟨i0, hi0, hz0, hzz1, hzz2⟩ := info_parts pt_info
  have HIF := Lib.hid (And.intro hi0 (And.intro hz0 (And.intro hzz1 hzz2)))
  have HN := Lib.hid (And.intro n0 n1)
  clear b1 hu hru hlu hp hown CN hi0 hz0 hzz1 hzz2 HI hI hb hS0 n0 n1 p0f
  go_upto_region 4 with (fail)
  refine Rg.rgL (fun a b => Below a.heap.size a b)
    [(fun vs u => vs 0 = .slice Av st.length cv), (fun vs u => vs 1 = .slice (some ⟨gn, 0, none⟩) 2 cu), (fun vs u => vs 2 = .pointer (some ⟨gn, 0, none⟩)), (fun vs u => vs 3 = .int .i64 nx), (fun vs u => vs 4 = .slice (some ⟨gn, 0, none⟩) 2 cu), (fun vs u => vs 5 = .pointer (some ⟨gn, 1, none⟩)), (fun vs u => vs 6 = .int .i64 ny), (fun vs u => vs 7 = .agg #[.int .i64 nx, .int .i64 ny]), (fun vs u => ∃ q : Nat, vs 8 = .slice (some ⟨q, 0, none⟩) 1 1 ∧ u.heap[q]? = some (.cells #[.int .i64 nx, .int .i64 ny] 45 (0, 0)))]
    [[], [], [1], [1, 2], [], [4], [4, 5], [1, 2, 3, 4, 5, 6], [1, 2, 3, 4, 5, 6, 7]] [some 20, some 21, some 22, some 23, some 24, some 25, some 26, some 27, some 28, some 29, none] [8] (fun _ _ => True) [[], [], [1], [1, 2], [], [4], [4, 5], [1, 2, 3, 4, 5, 6], [1, 2, 3, 4, 5, 6, 7], [0, 1, 2, 3, 4, 5, 6, 7, 8], [0, 1, 2, 3, 4, 5, 6, 7, 8, 9]]
    (by kernel_rfl) (by decide) (by kernel_rfl) (by kernel_rfl) (by kernel_rfl) (by kernel_rfl) (by kernel_rfl) (fun _ => Below.refl _ _) (fun _ _ _ h k => h.ext k) (fun _ _ h => h.size) ?_ trivial ?_ ?_
  · intro t ht vs w w' h hE
    simp only [List.mem_cons, List.not_mem_nil, or_false] at ht
    rcases ht with rfl | rfl | rfl | rfl | rfl | rfl | rfl | rfl | rfl
    · exact h
    · exact h
    · exact h
    · exact h
    · exact h
    · exact h
    · exact h
    · exact h
    · obtain ⟨q, e, k⟩ := h
      exact ⟨q, e, blk_below hE k⟩
  ·
    refine Rg.cons 0 1 rfl (Rg.plain rfl ?_) ?_
    · intro vs W n hn hI hG hT hF K hK
      simp only [Rg.putsD, List.getD_cons_zero, List.getD_cons_succ, Act.put, List.setIfInBounds_toArray, List.set_cons_zero, List.set_cons_succ] at hK ⊢
      clear hn
      clear hF hI
      obtain ⟨c0, _, _⟩ := blk1 (blk_below hG H1.out.2.1)
      have H := Lib.hid hK
      clear hK hT
      go_simp
      exact H.out _ _ (Below.refl _ _) rfl (fun h => by cases h) trivial
    refine Rg.cons 1 2 rfl (Rg.plain rfl ?_) ?_
    · intro vs W n hn hI hG hT hF K hK
      simp only [Rg.putsD, List.getD_cons_zero, List.getD_cons_succ, Act.put, List.setIfInBounds_toArray, List.set_cons_zero, List.set_cons_succ] at hK ⊢
      clear hn
      clear hF hI
      have H := Lib.hid hK
      clear hK hT
      go_simp
      exact H.out _ _ (Below.refl _ _) rfl (fun h => by cases h) trivial
    refine Rg.cons 2 3 rfl (Rg.plain rfl ?_) ?_
    · intro vs W n hn hI hG hT hF K hK
      simp only [Rg.putsD, List.getD_cons_zero, List.getD_cons_succ, Act.put, List.setIfInBounds_toArray, List.set_cons_zero, List.set_cons_succ] at hK ⊢
      clear hn
      clear hF hI
      have t1 : vs 1 = .slice (some ⟨gn, 0, none⟩) 2 cu := hT 1 (by decide)
      simp only [t1] at hK
      have H := Lib.hid hK
      clear hK hT
      go_simp
      exact H.out _ _ (Below.refl _ _) rfl (fun h => by cases h) trivial
    refine Rg.cons 3 4 rfl (Rg.plain rfl ?_) ?_
    · intro vs W n hn hI hG hT hF K hK
      simp only [Rg.putsD, List.getD_cons_zero, List.getD_cons_succ, Act.put, List.setIfInBounds_toArray, List.set_cons_zero, List.set_cons_succ] at hK ⊢
      clear hn
      clear hF hI
      have t1 : vs 1 = .slice (some ⟨gn, 0, none⟩) 2 cu := hT 1 (by decide)
      have t2 : vs 2 = .pointer (some ⟨gn, 0, none⟩) := hT 2 (by decide)
      have c0 := (hG.cell (p := ⟨gn, 0, none⟩) hgnl).trans HN.out.1
      simp only [t1, t2] at hK
      have H := Lib.hid hK
      clear hK hT
      go_simp
      exact H.out _ _ (Below.refl _ _) rfl (fun h => by cases h) trivial
    refine Rg.cons 4 5 rfl (Rg.plain rfl ?_) ?_
    · intro vs W n hn hI hG hT hF K hK
      simp only [Rg.putsD, List.getD_cons_zero, List.getD_cons_succ, Act.put, List.setIfInBounds_toArray, List.set_cons_zero, List.set_cons_succ] at hK ⊢
      clear hn
      clear hF hI
      have H := Lib.hid hK
      clear hK hT
      go_simp
      exact H.out _ _ (Below.refl _ _) rfl (fun h => by cases h) trivial
    refine Rg.cons 5 6 rfl (Rg.plain rfl ?_) ?_
    · intro vs W n hn hI hG hT hF K hK
      simp only [Rg.putsD, List.getD_cons_zero, List.getD_cons_succ, Act.put, List.setIfInBounds_toArray, List.set_cons_zero, List.set_cons_succ] at hK ⊢
      clear hn
      clear hF hI
      have t4 : vs 4 = .slice (some ⟨gn, 0, none⟩) 2 cu := hT 4 (by decide)
      simp only [t4] at hK
      have H := Lib.hid hK
      clear hK hT
      go_simp
      exact H.out _ _ (Below.refl _ _) rfl (fun h => by cases h) trivial
    refine Rg.cons 6 7 rfl (Rg.plain rfl ?_) ?_
    · intro vs W n hn hI hG hT hF K hK
      simp only [Rg.putsD, List.getD_cons_zero, List.getD_cons_succ, Act.put, List.setIfInBounds_toArray, List.set_cons_zero, List.set_cons_succ] at hK ⊢
      clear hn
      clear hF hI
      have t4 : vs 4 = .slice (some ⟨gn, 0, none⟩) 2 cu := hT 4 (by decide)
      have t5 : vs 5 = .pointer (some ⟨gn, 1, none⟩) := hT 5 (by decide)
      have c0 := (hG.cell (p := ⟨gn, 1, none⟩) hgnl).trans HN.out.2
      simp only [t4, t5] at hK
      have H := Lib.hid hK
      clear hK hT
      go_simp
      exact H.out _ _ (Below.refl _ _) rfl (fun h => by cases h) trivial
    refine Rg.cons 7 8 rfl (Rg.plain rfl ?_) ?_
    · intro vs W n hn hI hG hT hF K hK
      simp only [Rg.putsD, List.getD_cons_zero, List.getD_cons_succ, Act.put, List.setIfInBounds_toArray, List.set_cons_zero, List.set_cons_succ] at hK ⊢
      clear hn
      clear hF hI
      have t1 : vs 1 = .slice (some ⟨gn, 0, none⟩) 2 cu := hT 1 (by decide)
      have t2 : vs 2 = .pointer (some ⟨gn, 0, none⟩) := hT 2 (by decide)
      have t3 : vs 3 = .int .i64 nx := hT 3 (by decide)
      have t4 : vs 4 = .slice (some ⟨gn, 0, none⟩) 2 cu := hT 4 (by decide)
      have t5 : vs 5 = .pointer (some ⟨gn, 1, none⟩) := hT 5 (by decide)
      have t6 : vs 6 = .int .i64 ny := hT 6 (by decide)
      simp only [t1, t2, t3, t4, t5, t6] at hK
      have H := Lib.hid hK
      clear hK hT
      go_simp
      exact H.out _ _ (Below.refl _ _) rfl (fun h => by cases h) trivial
    refine Rg.cons 8 9 rfl (Rg.plain rfl ?_) ?_
    · intro vs W n hn hI hG hT hF K hK
      simp only [Rg.putsD, List.getD_cons_zero, List.getD_cons_succ, Act.put, List.setIfInBounds_toArray, List.set_cons_zero, List.set_cons_succ] at hK ⊢
      clear hn
      clear hF hI
      have t1 : vs 1 = .slice (some ⟨gn, 0, none⟩) 2 cu := hT 1 (by decide)
      have t2 : vs 2 = .pointer (some ⟨gn, 0, none⟩) := hT 2 (by decide)
      have t3 : vs 3 = .int .i64 nx := hT 3 (by decide)
      have t4 : vs 4 = .slice (some ⟨gn, 0, none⟩) 2 cu := hT 4 (by decide)
      have t5 : vs 5 = .pointer (some ⟨gn, 1, none⟩) := hT 5 (by decide)
      have t6 : vs 6 = .int .i64 ny := hT 6 (by decide)
      have t7 : vs 7 = .agg #[.int .i64 nx, .int .i64 ny] := hT 7 (by decide)
      simp only [t1, t2, t3, t4, t5, t6, t7] at hK
      have H := Lib.hid hK
      clear hK hT
      go_simp
      exact H.out _ _ ((Below.refl _ _).alloc (Nat.le_refl _) _) (show ∃ q : Nat, _ = _ ∧ _ = _ from ⟨_, rfl, blk_new W _ rfl⟩) (fun _ => ⟨W.heap.size, rfl, Nat.le_refl _, by simp⟩) trivial
    exact Rg.nil
  · intro vs W hG hI hT hF
    have t0 : vs 0 = .slice Av st.length cv := hT 0 (by decide)
    have t1 : vs 1 = .slice (some ⟨gn, 0, none⟩) 2 cu := hT 1 (by decide)
    have t2 : vs 2 = .pointer (some ⟨gn, 0, none⟩) := hT 2 (by decide)
    have t3 : vs 3 = .int .i64 nx := hT 3 (by decide)
    have t4 : vs 4 = .slice (some ⟨gn, 0, none⟩) 2 cu := hT 4 (by decide)
    have t5 : vs 5 = .pointer (some ⟨gn, 1, none⟩) := hT 5 (by decide)
    have t6 : vs 6 = .int .i64 ny := hT 6 (by decide)
    have t7 : vs 7 = .agg #[.int .i64 nx, .int .i64 ny] := hT 7 (by decide)
    have t8 : ∃ q : Nat, vs 8 = .slice (some ⟨q, 0, none⟩) 1 1 ∧ W.heap[q]? = some (.cells #[.int .i64 nx, .int .i64 ny] 45 (0, 0)) := hT 8 (by decide)
    simp only [List.length_cons, List.length_nil, Nat.reduceAdd, List.range, List.range.loop, List.drop_succ_cons, List.drop_zero, Rg.putsD, List.getD_cons_zero, List.getD_cons_succ, Act.put, List.setIfInBounds_toArray, List.set_cons_zero, List.set_cons_succ, t0, t1, t2, t3, t4, t5, t6, t7]
    clear hT t0 t1 t2 t3 t4 t5 t6 t7
    obtain ⟨bq, e8, k8⟩ := t8
    have hszd : w1.heap.size ≤ W.heap.size := hG.size
    have HW : Hid (Below base w W ∧ W.ownsRow (cb + 1) 45 2 (.slice Av st.length cv) st.length (st.flatMap encP) ∧ W.heap[cb]? = some (.cells #[.slice Av st.length cv] 42 (0, 0)) ∧ W.heap[bq]? = some (.cells #[.int .i64 nx, .int .i64 ny] 45 (0, 0))) :=
      ⟨(H1.out.1.drew).then_below hG (by show base ≤ w1.heap.size; omega), own_below (w := w1.drew) H1.out.2.2.drew hG, blk_below hG H1.out.2.1, k8⟩
    have E8 := Lib.hid e8
    clear hF hI e8 k8 hG
    simp only [E8.out]
    have hWs : cb + 1 ≤ W.heap.size := by omega
    refine wpList_append_own _ rfl _ _ 42 rfl (cb + 1) 45 i0 _ 2 16 Tryz.underlying42 HIF.out.1 HIF.out.2.1 HIF.out.2.2.1 HIF.out.2.2.2 rfl (by omega) _ st.length (st.flatMap encP) rfl HW.out.2.1 ⟨bq, 0, none⟩ 1 1 [.int .i64 nx, .int .i64 ny] rfl rfl ?c1 (by intro u hu; simp at hu; rcases hu with rfl | rfl <;> rfl) ?c2 ?c3 hWs ?_
    case c1 =>
      intro q u hu
      rw [addr_new, cell_of_blk HW.out.2.2.2]
      simpa using hu
    case c2 => unfold maxLen; omega
    case c3 => omega
    intro v' w4 hown' hg' _
    obtain ⟨A9, c9, rfl, _, _⟩ := own_slice' hown'
    have b4 := (hg'.block cb (by omega) (fun e => by have := own_row HW.out.2.1 cb e.symm; omega)).trans HW.out.2.2.1
    obtain ⟨p4, f4, h4l⟩ := blk1 b4
    have HV : Hid (Below base w w4 ∧ w4.ownsRow (cb + 1) 45 2 (.slice A9 (st.length + 1) c9) (st.length + 1) (st.flatMap encP ++ [.int .i64 nx, .int .i64 ny]) ∧ w4.heap[cb]? = some (.cells #[.slice Av st.length cv] 42 (0, 0))) :=
      ⟨HW.out.1.grown hg' (by omega) (fun k hk => by have := own_row HW.out.2.1 k hk; omega), hown', b4⟩
    clear hown' hg' b4 HW
    go_wp2_with fail
    have HF : Hid (Below base w (w4.setCell ⟨cb, 0, none⟩ (.slice A9 (st.length + 1) c9)) ∧ PtAt cb (i + 1) (st ++ [(nx, ny)]) (w4.setCell ⟨cb, 0, none⟩ (.slice A9 (st.length + 1) c9))) := by
      refine ⟨HV.out.1.setCell hcb _, _, blk_set HV.out.2.2 _, ?_, ?_⟩
      · have := own_far HV.out.2.1 (p := ⟨cb, 0, none⟩) (by show cb < cb + 1; omega) (.slice A9 (st.length + 1) c9)
        rw [List.length_append, flatPt_snoc]
        exact this
      · rw [List.length_append]
        exact Nat.add_le_add_right hpl 1
    generalize w4.setCell ⟨cb, 0, none⟩ (.slice A9 (st.length + 1) c9) = w3 at *
    go_ret
    exact ⟨by rw [HR.out]; rfl, HF.out.1, fun st' h => by rw [HR.out] at h; cases h; exact HF.out.2⟩

/-- Points that are returned. -/
theorem pt_own2 {w : World} {base : Nat} {v : Value} {l : List (Int × Int)} (h : w.ownsRow base 45 2 v l.length (l.flatMap encP)) : Reads encP v l w := reads_own h
set_option maxHeartbeats 4000000 in
theorem ptRead_any (text : ByteArray) (hs : text.size ≤ 1000000) (w : World) (hG : Gl w) (hw : gLow ≤ w.heap.size) :
    Calls Tryz.prog 26 #[.string text] w fun e w' => ∃ v, e = .returned (.tuple #[v, .int .i64 (ptOut text).2.1, .int .i64 (ptOut text).2.2]) ∧ Below w.heap.size w w' ∧ Reads encP v (ptOut text).1 w' := by
  have HO : Hid (ptOut text = if 200000 < text.size then ([], 0, 2) else match ptScan text with | .error i => ([], (i : Int), 9) | .ok st => if ptsErr 500 st = 0 then (st, 0, 0) else ([], 0, ptsErr 500 st)) := rfl
  have H0 : Hid (Below w.heap.size w (w.alloc (.cells #[.slice none 0 0] 42)) ∧ PtAt w.heap.size 0 [] (w.alloc (.cells #[.slice none 0 0] 42))) :=
    ⟨(Below.refl _ _).alloc (Nat.le_refl _) _, _, blk_new w _ rfl, World.ownsRow_nil _ _ _ _, Nat.le_refl _⟩
  have CS := Lib.hid (fun (W : World) (hW : Below w.heap.size w W) (hp : PtAt w.heap.size 0 [] W) =>
    scan_any 67 (enters_of Tryz.func67 (by kernel_rfl) rfl) w.heap.size w.heap.size takePt (PtAt w.heap.size) (fun _ _ _ _ h hb => h.below hb) (ptRead_takes _ _ (Nat.le_refl _)) text (by omega) [] W (hG.below hW hw) hw hW.size hp)
  rw [show scanT (stepW takePt) text.size 0 [] text = ptScan text from rfl] at CS
  generalize ptOut text = out at *
  go_enter Tryz.func26, Tryz.ntmps26
  go_upto_region 2 with (fail)
  generalize w.alloc (.cells #[.slice none 0 0] 42) = wx at *
  have CX := Lib.hid (CS.out wx H0.out.1 H0.out.2)
  have hzx := H0.out.1.size
  clear CS
  go_wp2_with fail
  refine CX.out.mono ?_
  rintro e w1 ⟨rfl, b1, hok⟩
  have HB := Lib.hid (H0.out.1.trans b1)
  have HOK := Lib.hid hok
  clear b1 hok CX H0
  by_cases hlong : 200000 < text.size
  · have HX : Hid (out = ([], 0, 2)) := HO.out.trans (if_pos hlong)
    simp only [if_pos hlong]
    clear HOK HO
    go_wp2_with fail
    refine bodyPost_ret (v := .tuple #[.slice none 0 0, .int .i64 0, .int .i64 2]) (by unfold results; simp only [Tryz.results26]; go_simp) rfl ⟨_, by rw [HX.out], HB.out, by rw [HX.out]; exact ⟨none, 0, rfl, .inl rfl⟩⟩
  simp only [if_neg hlong]
  cases hR : ptScan text with
  | error i =>
    have HX : Hid (out = ([], (i : Int), 9)) := by
      refine HO.out.trans ?_
      rw [if_neg hlong, hR]
    simp only [lineOf, errOf]
    clear HOK HO hR
    go_wp2_with fail
    refine bodyPost_ret (v := .tuple #[.slice none 0 0, .int .i64 i, .int .i64 9]) (by unfold results; simp only [Tryz.results26]; go_simp) rfl ⟨_, by rw [HX.out], HB.out, by rw [HX.out]; exact ⟨none, 0, rfl, .inl rfl⟩⟩
  | ok st =>
    obtain ⟨nn, hpd, hns, _⟩ := HOK.out (by omega) st hR
    obtain ⟨vs, hp, hown, hpl⟩ := hpd
    have HX0 : Hid (out = if ptsErr 500 st = 0 then (st, 0, 0) else ([], 0, ptsErr 500 st)) := by
      refine HO.out.trans ?_
      rw [if_neg hlong, hR]
    have HP := Lib.hid (And.intro hp (reads_own hown))
    obtain ⟨Av, cv, rfl, _, _⟩ := own_slice' hown
    obtain ⟨p0, _, hpl2⟩ := blk1 hp
    have CC := Lib.hid (checkPoints_any st (by omega) 500 HP.out.2)
    simp only [lineOf, errOf]
    clear HOK HO hR hp hown
    generalize ptsErr 500 st = E at *
    by_cases hE0 : E = 0
    · have HX := Lib.hid (HX0.out.trans (if_pos hE0))
      subst hE0
      go_wp2_with fail
      refine CC.out.mono ?_
      rintro e w2 ⟨rfl, b2⟩
      have H2 : Hid (Below w.heap.size w w2 ∧ w2.heap[w.heap.size]? = some (.cells #[.slice Av st.length cv] 42 (0, 0)) ∧ Reads encP (.slice Av st.length cv) st w2) := ⟨HB.out.then_below b2 HB.out.size, blk_below b2 HP.out.1, HP.out.2.below b2⟩
      clear b2 CC HX0 HP p0 hpl2
      obtain ⟨p0, _, hpl2⟩ := blk1 H2.out.2.1
      go_wp2_with fail
      refine bodyPost_ret (v := .tuple #[.slice Av st.length cv, .int .i64 0, .int .i64 0]) (by unfold results; simp only [Tryz.results26]; go_simp) rfl ⟨_, by rw [HX.out], H2.out.1, by rw [HX.out]; exact H2.out.2.2⟩
    · have HX := Lib.hid (HX0.out.trans (if_neg hE0))
      have hne1 : (E == 0) = false := by simpa using hE0
      have hne2 : (E != 0) = true := by simpa using hE0
      go_wp2_with fail
      refine CC.out.mono ?_
      rintro e w2 ⟨rfl, b2⟩
      have H2 := Lib.hid (HB.out.then_below b2 HB.out.size)
      clear b2 CC HX0 HP p0 hpl2
      go_wp2_with fail
      refine bodyPost_ret (v := .tuple #[.slice none 0 0, .int .i64 0, .int .i64 E]) (by unfold results; simp only [Tryz.results26]; go_simp) rfl ⟨_, by rw [HX.out], H2.out, by rw [HX.out]; exact ⟨none, 0, rfl, .inl rfl⟩⟩
end Go.Proofs.YtbkbjljkfhahbaaGreatDoor
