/-
  The checks of stays.
-/
import Derived.Test.YtopnadilfjakiaaDoorPx1
namespace Go.Proofs.YtopnadilfjakiaaDoor
open Go.RowKit

set_option maxHeartbeats 2000000 in
theorem checkStays_any (A : Option Addr) (c : Nat) (l : List Sy) (hl : l.length ≤ 4611686018427387904) (w : World) (hA : SyAt w A l) :
    Calls Tryd.prog 9 #[.slice A l.length c] w fun e w' => e = .returned (.int .i64 (staysErr l)) ∧ Below w.heap.size w w' := by
  have HE : Hid (staysErr l = if l = [] then 8 else if 500 < l.length then 2 else syErr l none) := rfl
  by_cases h0 : l.length = 0
  · obtain rfl : l = [] := List.length_eq_zero_iff.mp h0
    go_enter Tryd.func9, Tryd.ntmps9
    go_wp2_with fail
    go_ret
    exact ⟨rfl, Below.refl _ _⟩
  have hne : ¬ l = [] := fun h => h0 (by rw [h]; rfl)
  have h01 : ((l.length : Int) == 0) = false := beq_eq_false_iff_ne.mpr (by omega)
  by_cases hn : 500 < l.length
  · go_enter Tryd.func9, Tryd.ntmps9
    go_wp2_with fail
    go_ret
    exact ⟨ret_int (by rw [HE.out, if_neg hne, if_pos hn]), Below.refl _ _⟩
  have HE2 : Hid (staysErr l = syErr l none) := HE.out.trans ((if_neg hne).trans (if_neg hn))
  clear HE hne
  go_enter Tryd.func9, Tryd.ntmps9
  go_wp2_with fail
  clear h0 h01
  go_loopw [13] (fun kk wr => ∃ k : Nat, k ≤ l.length ∧ kk = .int .i64 k ∧ Below w.heap.size w wr ∧ Hid (syErr l none = syErr (l.drop k) (prevS l k))) (fun kk _ => l.length - (intOf kk).toNat)
  case atStart => exact ⟨0, by omega, rfl, Below.refl _ _, rfl⟩
  case round =>
    obtain ⟨k, hk, rfl, hb, HO⟩ := hrel
    by_cases hlt : k < l.length
    · obtain ⟨p, hp⟩ : ∃ p, l[k] = p := ⟨_, rfl⟩
      have hD : syErr l none = syErr (p :: l.drop (k + 1)) (prevS l k) := HO.out.trans (by rw [drop_at l hlt, hp])
      have hN : prevS l (k + 1) = some p.frm := by simp [prevS, hlt, hp]
      rcases hA with rfl | ⟨g, rfl, hrow⟩
      · simp at hlt
      obtain ⟨p0, p1⟩ := row_sy (hrow.below hb) hlt
      rw [hp] at p0 p1
      obtain ⟨pl, fr⟩ := p
      dsimp only at p0 p1 hN
      have hg1 : g < wr.heap.size := Nat.lt_of_lt_of_le hrow.1 hb.size
      have HD := Lib.hid hD
      have HN := Lib.hid hN
      have HP := Lib.hid hp
      have HROW := Lib.hid hrow
      have HBE := Lib.hid hb
      clear hD hN hp hrow
      cases hk1 : inR pl 1 4
      · have HF : Hid (staysErr l = 4) := by
          refine HE2.out.trans (HD.out.trans ?_)
          rw [syErr, if_pos (by simp only [hk1])]
        have C1 := Lib.hid (fun W => withinR pl 1 4 W)
        rw [hk1] at C1
        clear hk1
        go_wp2_with fail
        refine (C1.out _).mono ?_
        rintro e w' ⟨rfl, rfl⟩
        go_wp2_with fail
        go_ret
        exact ⟨ret_int HF.out.symm, HBE.out.alloc HBE.out.size _⟩
      have C1 := Lib.hid (fun W => withinR pl 1 4 W)
      rw [hk1] at C1
      have HK1 := Lib.hid hk1
      clear hk1
      cases hk2 : inR fr 0 345686399999
      · have HF : Hid (staysErr l = 1) := by
          refine HE2.out.trans (HD.out.trans ?_)
          rw [syErr, if_neg (by simp only [HK1.out]; simp), if_pos (by simp only [hk2])]
        have C2 := Lib.hid (fun W => moment_any fr W)
        rw [hk2] at C2
        clear hk2
        go_wp2_with fail
        refine (C1.out _).mono ?_
        rintro e w' ⟨rfl, rfl⟩
        go_wp2_with fail
        refine (C2.out _).mono ?_
        rintro e w' ⟨rfl, rfl⟩
        go_wp2_with fail
        go_ret
        exact ⟨ret_int HF.out.symm, HBE.out.alloc HBE.out.size _⟩
      have C2 := Lib.hid (fun W => moment_any fr W)
      rw [hk2] at C2
      have HK2 := Lib.hid hk2
      clear hk2
      by_cases hk0 : k = 0
      · have HD1 : Hid (syErr l none = syErr (l.drop (k + 1)) (some fr)) := by
          refine HD.out.trans ?_
          rw [syErr, if_neg (by simp only [HK1.out]; simp), if_neg (by simp only [HK2.out]; simp), if_neg (by rw [hk0]; simp [prevS])]
        have hd0 : decide (0 < k) = false := decide_eq_false (by omega)
        clear hk0
        go_wp2_with fail
        refine (C1.out _).mono ?_
        rintro e w' ⟨rfl, rfl⟩
        go_wp2_with fail
        refine (C2.out _).mono ?_
        rintro e w' ⟨rfl, rfl⟩
        go_wp2_with fail
        go_quiet (fail)
        clear hd0
        go_wp2_with fail
        go_roundw
        case rel => exact ⟨k + 1, by omega, by go_num, (hb.alloc hb.size _).drawN _, HD1.out.trans (by rw [HN.out])⟩
        case measure => simp [intOf]; omega
      · obtain ⟨pm, hpm⟩ : ∃ p, l[k - 1] = p := ⟨_, rfl⟩
        have hwi : IntKind.i64.wrap ((k : Int) - 1) = (k : Int) - 1 := IntWalk.i64_in ((k : Int) - 1) (by omega)
        obtain ⟨_, m1⟩ := row_sy ((HROW.out).below HBE.out) (show k - 1 < l.length by omega)
        have hPV : prevS l k = some pm.frm := by
          obtain ⟨m, rfl⟩ : ∃ m, k = m + 1 := ⟨k - 1, by omega⟩
          simp only [Nat.add_sub_cancel] at hpm
          simp [prevS, show m < l.length by omega, hpm]
        have HPV := Lib.hid hPV
        rw [hpm] at m1
        have hd0 : 0 < k := by omega
        obtain ⟨fm, hfm⟩ : ∃ n, pm.frm = n := ⟨_, rfl⟩
        rw [hfm] at m1
        have HFM := Lib.hid hfm
        clear hpm hPV hfm
        go_wp2_with fail
        refine (C1.out _).mono ?_
        rintro e w' ⟨rfl, rfl⟩
        go_wp2_with fail
        refine (C2.out _).mono ?_
        rintro e w' ⟨rfl, rfl⟩
        go_wp2_with fail
        by_cases ho : fr ≤ fm
        · have HF : Hid (staysErr l = 7) := by
            refine HE2.out.trans (HD.out.trans ?_)
            rw [syErr, if_neg (by simp only [HK1.out]; simp), if_neg (by simp only [HK2.out]; simp), if_pos (by rw [HPV.out]; simp [HFM.out, ho])]
          go_quiet (fail)
          go_wp2_with fail
          go_ret
          exact ⟨ret_int HF.out.symm, (HBE.out.alloc HBE.out.size _).drawN _⟩
        · have HD1 : Hid (syErr l none = syErr (l.drop (k + 1)) (some fr)) := by
            refine HD.out.trans ?_
            rw [syErr, if_neg (by simp only [HK1.out]; simp), if_neg (by simp only [HK2.out]; simp), if_neg (by rw [HPV.out]; simp [HFM.out]; omega)]
          go_quiet (fail)
          clear hd0
          go_wp2_with fail
          go_roundw
          case rel => exact ⟨k + 1, by omega, by go_num, (hb.alloc hb.size _).drawN _, HD1.out.trans (by rw [HN.out])⟩
          case measure => simp [intOf]; omega
    · have HALL : Hid (staysErr l = 0) := by
        refine HE2.out.trans (HO.out.trans ?_)
        rw [List.drop_eq_nil_of_le (by omega)]
        rfl
      go_wp2_with fail
      go_ret
      exact ⟨ret_int HALL.out.symm, hb⟩

set_option maxHeartbeats 2000000 in
theorem staysFault_any (A : Option Addr) (c : Nat) (l : List Sy) (hl : l.length ≤ 4611686018427387904) (w : World) (hA : SyAt w A l) :
    Calls Tryd.prog 10 #[.slice A l.length c] w fun e w' => e = .returned (.int .i64 (staysErr l)) ∧ Below w.heap.size w w' := by
  have HE : Hid (staysErr l = if l = [] then 8 else if 500 < l.length then 2 else syErr l none) := rfl
  by_cases h0 : l.length = 0
  · obtain rfl : l = [] := List.length_eq_zero_iff.mp h0
    go_enter Tryd.func10, Tryd.ntmps10
    go_wp2_with fail
    go_ret
    exact ⟨rfl, Below.refl _ _⟩
  have hne : ¬ l = [] := fun h => h0 (by rw [h]; rfl)
  have h01 : ((l.length : Int) == 0) = false := beq_eq_false_iff_ne.mpr (by omega)
  by_cases hn : 500 < l.length
  · go_enter Tryd.func10, Tryd.ntmps10
    go_wp2_with fail
    go_ret
    exact ⟨ret_int (by rw [HE.out, if_neg hne, if_pos hn]), Below.refl _ _⟩
  have HE2 : Hid (staysErr l = syErr l none) := HE.out.trans ((if_neg hne).trans (if_neg hn))
  clear HE hne
  go_enter Tryd.func10, Tryd.ntmps10
  go_wp2_with fail
  clear h0 h01
  go_loopw [15] (fun kk wr => ∃ k : Nat, k ≤ l.length ∧ kk = .int .i64 k ∧ Below w.heap.size w wr ∧ Hid (syErr l none = syErr (l.drop k) (prevS l k))) (fun kk _ => l.length - (intOf kk).toNat)
  case atStart => exact ⟨0, by omega, rfl, Below.refl _ _, rfl⟩
  case round =>
    obtain ⟨k, hk, rfl, hb, HO⟩ := hrel
    by_cases hlt : k < l.length
    · obtain ⟨p, hp⟩ : ∃ p, l[k] = p := ⟨_, rfl⟩
      have hD : syErr l none = syErr (p :: l.drop (k + 1)) (prevS l k) := HO.out.trans (by rw [drop_at l hlt, hp])
      have hN : prevS l (k + 1) = some p.frm := by simp [prevS, hlt, hp]
      rcases hA with rfl | ⟨g, rfl, hrow⟩
      · simp at hlt
      obtain ⟨p0, p1⟩ := row_sy (hrow.below hb) hlt
      rw [hp] at p0 p1
      obtain ⟨pl, fr⟩ := p
      dsimp only at p0 p1 hN
      have hg1 : g < wr.heap.size := Nat.lt_of_lt_of_le hrow.1 hb.size
      have HD := Lib.hid hD
      have HN := Lib.hid hN
      have HP := Lib.hid hp
      have HROW := Lib.hid hrow
      have HBE := Lib.hid hb
      clear hD hN hp hrow
      cases hk1 : inR pl 1 4
      · have HF : Hid (staysErr l = 4) := by
          refine HE2.out.trans (HD.out.trans ?_)
          rw [syErr, if_pos (by simp only [hk1])]
        have C1 := Lib.hid (fun W => in1_any pl 1 4 W)
        rw [hk1] at C1
        clear hk1
        go_wp2_with fail
        refine (C1.out _).mono ?_
        rintro e w' ⟨rfl, rfl⟩
        go_wp2_with fail
        go_ret
        exact ⟨ret_int HF.out.symm, HBE.out.alloc HBE.out.size _⟩
      have C1 := Lib.hid (fun W => in1_any pl 1 4 W)
      rw [hk1] at C1
      have HK1 := Lib.hid hk1
      clear hk1
      cases hk2 : inR fr 0 345686399999
      · have HF : Hid (staysErr l = 1) := by
          refine HE2.out.trans (HD.out.trans ?_)
          rw [syErr, if_neg (by simp only [HK1.out]; simp), if_pos (by simp only [hk2])]
        have C2 := Lib.hid (fun W => momentR_any fr W)
        rw [hk2] at C2
        clear hk2
        go_wp2_with fail
        refine (C1.out _).mono ?_
        rintro e w' ⟨rfl, rfl⟩
        go_wp2_with fail
        refine (C2.out _).mono ?_
        rintro e w' ⟨rfl, rfl⟩
        go_wp2_with fail
        go_ret
        exact ⟨ret_int HF.out.symm, HBE.out.alloc HBE.out.size _⟩
      have C2 := Lib.hid (fun W => momentR_any fr W)
      rw [hk2] at C2
      have HK2 := Lib.hid hk2
      clear hk2
      by_cases hk0 : k = 0
      · have HD1 : Hid (syErr l none = syErr (l.drop (k + 1)) (some fr)) := by
          refine HD.out.trans ?_
          rw [syErr, if_neg (by simp only [HK1.out]; simp), if_neg (by simp only [HK2.out]; simp), if_neg (by rw [hk0]; simp [prevS])]
        have hd0 : decide (0 < k) = false := decide_eq_false (by omega)
        clear hk0
        go_wp2_with fail
        refine (C1.out _).mono ?_
        rintro e w' ⟨rfl, rfl⟩
        go_wp2_with fail
        refine (C2.out _).mono ?_
        rintro e w' ⟨rfl, rfl⟩
        go_wp2_with fail
        go_quiet (fail)
        clear hd0
        go_wp2_with fail
        go_roundw
        case rel => exact ⟨k + 1, by omega, by go_num, (hb.alloc hb.size _).drawN _, HD1.out.trans (by rw [HN.out])⟩
        case measure => simp [intOf]; omega
      · obtain ⟨pm, hpm⟩ : ∃ p, l[k - 1] = p := ⟨_, rfl⟩
        have hwi : IntKind.i64.wrap ((k : Int) - 1) = (k : Int) - 1 := IntWalk.i64_in ((k : Int) - 1) (by omega)
        obtain ⟨_, m1⟩ := row_sy ((HROW.out).below HBE.out) (show k - 1 < l.length by omega)
        have hPV : prevS l k = some pm.frm := by
          obtain ⟨m, rfl⟩ : ∃ m, k = m + 1 := ⟨k - 1, by omega⟩
          simp only [Nat.add_sub_cancel] at hpm
          simp [prevS, show m < l.length by omega, hpm]
        have HPV := Lib.hid hPV
        rw [hpm] at m1
        have hd0 : 0 < k := by omega
        obtain ⟨fm, hfm⟩ : ∃ n, pm.frm = n := ⟨_, rfl⟩
        rw [hfm] at m1
        have HFM := Lib.hid hfm
        clear hpm hPV hfm
        go_wp2_with fail
        refine (C1.out _).mono ?_
        rintro e w' ⟨rfl, rfl⟩
        go_wp2_with fail
        refine (C2.out _).mono ?_
        rintro e w' ⟨rfl, rfl⟩
        go_wp2_with fail
        by_cases ho : fr ≤ fm
        · have HF : Hid (staysErr l = 7) := by
            refine HE2.out.trans (HD.out.trans ?_)
            rw [syErr, if_neg (by simp only [HK1.out]; simp), if_neg (by simp only [HK2.out]; simp), if_pos (by rw [HPV.out]; simp [HFM.out, ho])]
          go_quiet (fail)
          go_wp2_with fail
          go_ret
          exact ⟨ret_int HF.out.symm, (HBE.out.alloc HBE.out.size _).drawN _⟩
        · have HD1 : Hid (syErr l none = syErr (l.drop (k + 1)) (some fr)) := by
            refine HD.out.trans ?_
            rw [syErr, if_neg (by simp only [HK1.out]; simp), if_neg (by simp only [HK2.out]; simp), if_neg (by rw [HPV.out]; simp [HFM.out]; omega)]
          go_quiet (fail)
          clear hd0
          go_wp2_with fail
          go_roundw
          case rel => exact ⟨k + 1, by omega, by go_num, (hb.alloc hb.size _).drawN _, HD1.out.trans (by rw [HN.out])⟩
          case measure => simp [intOf]; omega
    · have HALL : Hid (staysErr l = 0) := by
        refine HE2.out.trans (HO.out.trans ?_)
        rw [List.drop_eq_nil_of_le (by omega)]
        rfl
      go_wp2_with fail
      go_ret
      exact ⟨ret_int HALL.out.symm, hb⟩
end Go.Proofs.YtopnadilfjakiaaDoor
