/-
  What is wrong with a tour: the program's check, and the reference's.
-/
import Derived.Test.YtbkbjljkfhahbaaTqM
import Derived.Test.YtbkbjljkfhahbaaShelf
import Derived.Laws.MakeOwn
namespace Go.Proofs.Ytbkbjljkfhahbaa
open Go.RowKit
set_option linter.unusedSimpArgs false
set_option linter.unusedVariables false

theorem containsN_any (l : List Int) (hl : l.length ≤ 1000000) (n : Nat) (hn : n ≤ l.length) (x : Int) {A : Option Addr} {c c0 : Nat} {w : World} (h : Reads encN (.slice A l.length c0) l w) :
    Calls Try.prog 31 #[.slice A n c, .int .i64 x] w fun e w' => e = .returned (.bool ((l.take n).contains x)) ∧ w' = w := by
  obtain ⟨A', c', e, h⟩ := h
  cases e
  rcases h with rfl | ⟨g, rfl, h⟩
  · obtain rfl : n = 0 := by simpa using hn
    exact Try.slices_Contains_int_empty A c x w
  · refine Try.slices_Contains_int g 0 n c l x w hn (by omega) (fun j hj => ?_)
    rw [Nat.zero_add, row_n h hj, List.getD_eq_getElem?_getD, List.getElem?_eq_getElem hj]
    rfl

/-- Which indices are there. -/
def thereC (n : Nat) (seen : List Int) : List Value := (List.range n).map fun j : Nat => .bool (seen.contains (j : Int))
theorem thereC_nil (n : Nat) : (thereC n []).toArray = Array.replicate n (.bool false) := by
  have : thereC n [] = List.replicate n (.bool false) := by
    unfold thereC
    refine List.ext_getElem (by simp) fun j h1 h2 => ?_
    simp
  rw [this]
  simp
theorem thereC_at {n : Nat} (seen : List Int) {j : Nat} (hj : j < n) : (thereC n seen).toArray[j]? = some (.bool (seen.contains (j : Int))) := by
  unfold thereC
  simp [hj]
theorem thereC_set {n : Nat} (seen : List Int) {j : Nat} (hj : j < n) : (thereC n seen).toArray.setIfInBounds j (.bool true) = (thereC n (seen ++ [(j : Int)])).toArray := by
  rw [List.setIfInBounds_toArray]
  congr 1
  unfold thereC
  refine List.ext_getElem (by simp) fun i h1 h2 => ?_
  rw [List.getElem_set]
  simp only [List.getElem_map, List.getElem_range, List.contains_append]
  split
  · rename_i e
    subst e
    simp
  · rename_i e
    have : ([(j : Int)] : List Int).contains (i : Int) = false := by
      rw [Bool.eq_false_iff]
      intro h
      simp at h
      omega
    rw [this, Bool.or_false]
theorem bool_infoN : (Try.prog.info? 4).map (fun i => (i.zero, i.size, i.bytes)) = some (some (.bool false), 1, 1) := by kernel_rfl
theorem run_makeBools (n : Nat) (hn : n ≤ 1000000) (W : World) : (Instr.makeSlice 77 (.int .i64 n) (.int .i64 n)).run Try.prog W = .ok (.slice (some ⟨W.heap.size, 0, none⟩) n n) (W.alloc (.cells (Array.replicate n (.bool false)) 4)) := by
  obtain ⟨i0, hi, hz0, hz1, hz2⟩ := info_parts bool_infoN
  have h := run_make (P := Try.prog) W 77 4 i0 (.bool false) Try.underlying77 hi hz0 .i64 .i64 n n (by omega) (by omega) (by rw [hz2]; omega) (by omega)
  rw [h, hz1]
  have e : madeCells (Value.bool false).cells ((n : Int).toNat * 1) = Array.replicate n (.bool false) := by
    apply Array.ext
    · simp [madeCells]
    · intro j h1 h2
      simp [madeCells, Value.cells, Nat.mod_one]
  rw [e]
  simp

set_option maxHeartbeats 1000000 in
theorem check_any (s : Int × Int) (l : List (Int × Int)) (hl : l.length ≤ 1000000) (most : Int) {pv : Value} {w : World} (h : Reads encP pv l w) :
    Calls Try.prog 38 #[.agg #[.int .i64 s.1, .int .i64 s.2], pv, .int .i64 most] w fun e w' => e = .returned (.int .i64 (tErr most s l)) ∧ Below w.heap.size w w' := by
  have CB := Lib.hid (fun W => beyond_any s.1 s.2 W)
  have HT : Hid (tErr most s l = if okPt s = false then 1 else ptsErr most l) := rfl
  rw [show okPt (s.1, s.2) = okPt s from rfl] at CB
  have CC := Lib.hid (fun (W : World) (hW : Reads encP pv l W) => checkPoints_any l hl most hW)
  have HR := Lib.hid h
  obtain ⟨A, c, rfl, _⟩ := h
  obtain ⟨T, hTT⟩ : ∃ T, tErr most s l = T := ⟨_, rfl⟩
  rw [hTT] at HT
  rw [hTT]
  clear hTT
  generalize okPt s = b at *
  generalize ptsErr most l = E at *
  obtain ⟨s1, s2⟩ := s
  dsimp only at *
  have H0 : Hid (Below w.heap.size w (w.alloc (.cells #[.int .i64 s1, .int .i64 s2] 27))) := (Below.refl _ _).alloc (Nat.le_refl _) _
  cases b
  · have HF : Hid (T = 1) := HT.out.trans (if_pos rfl)
    clear HT CC
    go_enter Try.func38, Try.ntmps38
    go_wp2_with fail
    refine (CB.out _).mono ?_
    rintro e w1 ⟨rfl, b1⟩
    have HB := Lib.hid (H0.out.then_below b1 H0.out.size)
    clear b1 CB H0
    go_wp2_with fail
    go_ret
    exact ⟨ret_int HF.out.symm, HB.out⟩
  · have HF : Hid (T = E) := HT.out.trans (if_neg (by simp))
    clear HT
    go_enter Try.func38, Try.ntmps38
    go_wp2_with fail
    refine (CB.out _).mono ?_
    rintro e w1 ⟨rfl, b1⟩
    have HB := Lib.hid (H0.out.then_below b1 H0.out.size)
    clear b1 CB H0
    go_wp2_with fail
    refine (CC.out w1 (HR.out.below HB.out)).mono ?_
    rintro e w2 ⟨rfl, b2⟩
    have HB2 := Lib.hid (HB.out.then_below b2 HB.out.size)
    clear b2 CC HB
    go_wp2_with fail
    go_ret
    exact ⟨ret_int HF.out.symm, HB2.out⟩

set_option maxRecDepth 100000 in
set_option maxHeartbeats 8000000 in
theorem checkTour_any (s : Int × Int) (l : List (Int × Int)) (hl : l.length ≤ 100000) (o : List Int) (ho : o.length ≤ 100000) {pv ov : Value} {w : World} (h1 : Reads encP pv l w) (h2 : Reads encN ov o w) :
    Calls Try.prog 32 #[.agg #[.int .i64 s.1, .int .i64 s.2], pv, ov] w fun e w' => e = .returned (.int .i64 (tourErr s l o)) ∧ Below w.heap.size w w' := by
  have HR := Lib.hid (And.intro h1 h2)
  have CC := Lib.hid (fun (W : World) (hW : Reads encP pv l W) => check_any s l (by omega) 500 hW)
  obtain ⟨Ap, cp, rfl, _⟩ := h1
  obtain ⟨Ao, co, rfl, _⟩ := h2
  have HT : Hid (tourErr s l o = if tErr 500 s l = 0 then ordErr l.length o else tErr 500 s l) := rfl
  obtain ⟨T, hTT⟩ : ∃ T, tourErr s l o = T := ⟨_, rfl⟩
  rw [hTT] at HT
  rw [hTT]
  clear hTT
  generalize tErr 500 s l = E at *
  obtain ⟨s1, s2⟩ := s
  dsimp only at *
  have H0 : Hid (Below w.heap.size w (w.alloc (.cells #[.int .i64 s1, .int .i64 s2] 27)) ∧ (w.alloc (.cells #[.int .i64 s1, .int .i64 s2] 27)).heap[w.heap.size]? = some (.cells #[.int .i64 s1, .int .i64 s2] 27 (0, 0))) := ⟨(Below.refl _ _).alloc (Nat.le_refl _) _, blk_new w _ rfl⟩
  by_cases hE : E = 0
  rotate_left
  · have HF : Hid (T = E) := HT.out.trans (if_neg hE)
    have hne1 : (E == 0) = false := by simpa using hE
    have hne2 : (E != 0) = true := by simpa using hE
    clear HT
    go_enter Try.func32, Try.ntmps32
    go_wp2_with fail
    refine (CC.out _ (HR.out.1.below H0.out.1)).mono ?_
    rintro e w1 ⟨rfl, b1⟩
    have HB := Lib.hid (H0.out.1.then_below b1 H0.out.1.size)
    clear b1 CC H0
    go_wp2_with fail
    go_ret
    exact ⟨ret_int HF.out.symm, HB.out⟩
  have HT2 : Hid (T = ordErr l.length o) := HT.out.trans (if_pos hE)
  subst hE
  clear HT
  by_cases hon : o.length = l.length
  rotate_left
  · have HF : Hid (T = 3) := HT2.out.trans (if_neg hon)
    have hne2 : ((o.length : Int) != (l.length : Int)) = true := by simp; omega
    go_enter Try.func32, Try.ntmps32
    go_wp2_with fail
    refine (CC.out _ (HR.out.1.below H0.out.1)).mono ?_
    rintro e w1 ⟨rfl, b1⟩
    have HB := Lib.hid (H0.out.1.then_below b1 H0.out.1.size)
    clear b1 CC H0
    go_wp2_with fail
    go_ret
    exact ⟨ret_int HF.out.symm, HB.out⟩
  have HT3 : Hid (T = ordE l.length [] o) := HT2.out.trans (if_pos hon)
  have hne2 : ((o.length : Int) != (l.length : Int)) = false := by simp; omega
  clear HT2
  have hmk := run_makeBools l.length (by omega)
  go_enter Try.func32, Try.ntmps32
  go_wp2_with fail
  refine (CC.out _ (HR.out.1.below H0.out.1)).mono ?_
  rintro e w1 ⟨rfl, b1⟩
  have HB := Lib.hid (H0.out.1.then_below b1 H0.out.1.size)
  clear b1 CC H0
  go_upto_region 7 with (fail)
  have H1 : Hid (Below w.heap.size w (w1.alloc (.cells (Array.replicate l.length (.bool false)) 4)) ∧ (w1.alloc (.cells (Array.replicate l.length (.bool false)) 4)).heap[w1.heap.size]? = some (.cells (thereC l.length (o.take 0)).toArray 4 (0, 0))) :=
    ⟨HB.out.alloc HB.out.size _, by rw [List.take_zero, thereC_nil]; exact blk_new w1 _ rfl⟩
  generalize w1.alloc (.cells (Array.replicate l.length (.bool false)) 4) = w2 at *
  have hwb := HB.out.size
  generalize w1.heap.size = hb at *
  have hz2 := H1.out.1.size
  clear HB hmk
  go_wp2_with fail
  go_loopw [27] (fun kk wr => ∃ k : Nat, k ≤ o.length ∧ kk = .int .i64 k ∧ w.heap.size ≤ wr.heap.size ∧ Hid (T = ordE l.length (o.take k) (o.drop k)) ∧ Hid (Below w.heap.size w wr ∧ wr.heap[hb]? = some (.cells (thereC l.length (o.take k)).toArray 4 (0, 0)))) (fun kk _ => o.length - (intOf kk).toNat)
  case atStart => exact ⟨0, by omega, rfl, hz2, by rw [List.take_zero, List.drop_zero]; exact HT3, H1⟩
  case round =>
    obtain ⟨k, hk, rfl, hwz, HE, HS⟩ := hrel
    by_cases hlt : k < o.length
    · obtain ⟨Ao', co', eo, hro⟩ := HR.out.2.below HS.out.1
      cases eo
      rcases hro with rfl | ⟨go, rfl, hrow⟩
      · simp at hlt
      have q0 := row_n hrow hlt
      have hgo := hrow.1
      have HD : Hid (T = if 0 ≤ o[k] ∧ o[k] ≤ (l.length : Int) - 1 then (if (o.take k).contains o[k] = true then 6 else ordE l.length (o.take (k + 1)) (o.drop (k + 1))) else 1) := HE.out.trans (ordE_drop hlt)
      have HTK : Hid (o.take (k + 1) = o.take k ++ [o[k]]) := (List.take_append_getElem hlt).symm
      generalize o[k] = x at *
      have i1 : (0 : Int) ≤ (k : Int) := by omega
      have i2 : (k : Int) < (o.length : Int) := by omega
      clear hrow
      have CW := Lib.hid (fun W => within_any x 0 ((l.length : Int) - 1) W)
      by_cases hx : 0 ≤ x ∧ x ≤ (l.length : Int) - 1
      rotate_left
      · have HF : Hid (T = 1) := HD.out.trans (if_neg hx)
        have hw : (decide (0 ≤ x) && decide (x ≤ (l.length : Int) - 1)) = false := by
          rw [Bool.eq_false_iff]; intro h; apply hx; simpa using h
        rw [hw] at CW
        clear hw HD HE hx
        go_wp2_with fail
        refine (CW.out _).mono ?_
        rintro e w3 ⟨rfl, rfl⟩
        go_wp2_with fail
        go_ret
        exact ⟨ret_int HF.out.symm, HS.out.1⟩
      have HF := Lib.hid (HD.out.trans (if_pos hx))
      have hw : (decide (0 ≤ x) && decide (x ≤ (l.length : Int) - 1)) = true := by simpa using hx
      rw [hw] at CW
      obtain ⟨hx0, hx1⟩ := hx
      obtain ⟨j, rfl⟩ := Int.eq_ofNat_of_zero_le hx0
      have hj : j < l.length := by omega
      have c0 : wr.cell? ⟨hb, j, none⟩ = some (.bool ((o.take k).contains (j : Int))) := (cell_of_blk HS.out.2 j).trans (thereC_at _ hj)
      have hbl := lt_of_blk HS.out.2
      have f0 := frozen_of_blk HS.out.2 j
      clear HD hw HE
      have i3 : (0 : Int) ≤ (j : Int) := by omega
      have i4 : (j : Int) < (l.length : Int) := by omega
      cases hct : (o.take k).contains (j : Int)
      rotate_left
      · have HF2 : Hid (T = 6) := HF.out.trans (if_pos hct)
        rw [hct] at c0
        clear hct HF
        go_wp2_with fail
        refine (CW.out _).mono ?_
        rintro e w3 ⟨rfl, rfl⟩
        go_wp2_with fail
        go_ret
        exact ⟨ret_int HF2.out.symm, HS.out.1⟩
      · have HF2 : Hid (T = ordE l.length (o.take (k + 1)) (o.drop (k + 1))) := HF.out.trans (if_neg (by rw [hct]; simp))
        rw [hct] at c0
        clear hct HF
        go_wp2_with fail
        refine (CW.out _).mono ?_
        rintro e w3 ⟨rfl, rfl⟩
        go_wp2_with fail
        have H5 : Hid (Below w.heap.size w (wr.setCell ⟨hb, j, none⟩ (.bool true)) ∧ (wr.setCell ⟨hb, j, none⟩ (.bool true)).heap[hb]? = some (.cells (thereC l.length (o.take (k + 1))).toArray 4 (0, 0))) :=
          ⟨HS.out.1.setCell (by show _ ≤ hb; omega) _, by rw [HTK.out, ← thereC_set _ hj]; exact blk_set HS.out.2 _⟩
        generalize wr.setCell ⟨hb, j, none⟩ (.bool true) = w5 at *
        have hz5 := H5.out.1.size
        go_roundw
        case rel => exact ⟨k + 1, by omega, by go_num, hz5, HF2, H5⟩
        case measure => simp [intOf]; omega
    · have HF : Hid (T = 0) := HE.out.trans (by rw [List.drop_eq_nil_of_le (by omega)]; rfl)
      go_wp2_with fail
      go_ret
      exact ⟨ret_int HF.out.symm, HS.out.1⟩

/-! ### The reference's -/
set_option maxHeartbeats 8000000 in
theorem orderFault_any (n : Nat) (hn : n ≤ 100000) (o : List Int) (ho : o.length ≤ 100000) {ov : Value} {w : World} (h2 : ReadsF 0 encN ov o w) :
    Calls Try.prog 12 #[.int .i64 n, ov] w fun e w' => e = .returned (.int .i64 (ordErr n o)) ∧ w = w' := by
  have HR := Lib.hid h2.reads
  obtain ⟨Ao, co, rfl, hco, _⟩ := h2
  have HT : Hid (ordErr n o = if o.length = n then ordE n [] o else 3) := rfl
  obtain ⟨T, hTT⟩ : ∃ T, ordErr n o = T := ⟨_, rfl⟩
  rw [hTT] at HT
  rw [hTT]
  clear hTT
  by_cases hon : o.length = n
  rotate_left
  · have HF : Hid (T = 3) := HT.out.trans (if_neg hon)
    have hne2 : ((o.length : Int) != (n : Int)) = true := by simp; omega
    go_enter Try.func12, Try.ntmps12
    go_wp2_with fail
    go_ret
    exact ⟨ret_int HF.out.symm, rfl⟩
  have HT3 : Hid (T = ordE n [] o) := HT.out.trans (if_pos hon)
  have hne2 : ((o.length : Int) != (n : Int)) = false := by simp; omega
  have HON := Lib.hid hon
  clear HT hon
  go_enter Try.func12, Try.ntmps12
  go_wp2_with fail
  go_loopw [13] (fun kk wr => ∃ k : Nat, k ≤ o.length ∧ kk = .int .i64 k ∧ w = wr ∧ Hid (T = ordE n (o.take k) (o.drop k))) (fun kk _ => o.length - (intOf kk).toNat)
  case atStart => exact ⟨0, by omega, rfl, rfl, by rw [List.take_zero, List.drop_zero]; exact HT3⟩
  case round =>
    obtain ⟨k, hk, rfl, rfl, HE⟩ := hrel
    by_cases hlt : k < o.length
    · obtain ⟨Ao', co', eo, hro⟩ := HR.out
      cases eo
      rcases hro with rfl | ⟨go, rfl, hrow⟩
      · simp at hlt
      have q0 := row_n hrow hlt
      have hgo := hrow.1
      have HD : Hid (T = if 0 ≤ o[k] ∧ o[k] ≤ (n : Int) - 1 then (if (o.take k).contains o[k] = true then 6 else ordE n (o.take (k + 1)) (o.drop (k + 1))) else 1) := HE.out.trans (ordE_drop hlt)
      have CK := Lib.hid (fun x => containsN_any o (by omega) k (by omega) x (c := co) HR.out)
      generalize o[k] = x at *
      have i1 : (0 : Int) ≤ (k : Int) := by omega
      have i2 : (k : Int) < (o.length : Int) := by omega
      clear hrow
      have CW := Lib.hid (fun W => in1_any x 0 ((n : Int) - 1) W)
      by_cases hx : 0 ≤ x ∧ x ≤ (n : Int) - 1
      rotate_left
      · have HF : Hid (T = 1) := HD.out.trans (if_neg hx)
        have hw : (decide (0 ≤ x) && decide (x ≤ (n : Int) - 1)) = false := by
          rw [Bool.eq_false_iff]; intro h; apply hx; simpa using h
        rw [hw] at CW
        clear hw HD HE hx
        go_wp2_with fail
        refine (CW.out _).mono ?_
        rintro e w3 ⟨rfl, rfl⟩
        go_wp2_with fail
        go_ret
        exact ⟨ret_int HF.out.symm, rfl⟩
      have HF := Lib.hid (HD.out.trans (if_pos hx))
      have hw : (decide (0 ≤ x) && decide (x ≤ (n : Int) - 1)) = true := by simpa using hx
      rw [hw] at CW
      have HX := Lib.hid hx
      clear HD hw HE hx
      have CK1 := Lib.hid (CK.out x)
      clear CK
      have i5 : k ≤ co := by omega
      cases hct : (o.take k).contains x
      rotate_left
      · have HF2 : Hid (T = 6) := HF.out.trans (if_pos hct)
        rw [hct] at CK1
        clear hct HF
        go_wp2_with fail
        refine (CW.out _).mono ?_
        rintro e w3 ⟨rfl, rfl⟩
        go_wp2_with fail
        refine CK1.out.mono ?_
        rintro e w3 ⟨rfl, rfl⟩
        go_wp2_with fail
        go_ret
        exact ⟨ret_int HF2.out.symm, rfl⟩
      · have HF2 : Hid (T = ordE n (o.take (k + 1)) (o.drop (k + 1))) := HF.out.trans (if_neg (by rw [hct]; simp))
        rw [hct] at CK1
        clear hct HF
        go_wp2_with fail
        refine (CW.out _).mono ?_
        rintro e w3 ⟨rfl, rfl⟩
        go_wp2_with fail
        refine CK1.out.mono ?_
        rintro e w3 ⟨rfl, rfl⟩
        go_wp2_with fail
        go_roundw
        case rel => exact ⟨k + 1, by omega, by go_num, by trivial, HF2⟩
        case measure => simp [intOf]; omega
    · have HF : Hid (T = 0) := HE.out.trans (by rw [List.drop_eq_nil_of_le (by omega)]; rfl)
      go_wp2_with fail
      go_ret
      exact ⟨ret_int HF.out.symm, rfl⟩
end Go.Proofs.Ytbkbjljkfhahbaa
