/-
  The checks of setups, the program's and the reference's.
-/
import Derived.Test.YtjmjmijjdgolfaaSeM
import Derived.Test.YtjmjmijjdgolfaaShelf
import Derived.Test.YtjmjmijjdgolfaaSeK
namespace Go.Proofs.Ytjmjmijjdgolfaa
open Go.RowKit

/-- slices.Contains at the head of a slice that reads as strings. -/
theorem contains_any {base : Nat} {l : List ByteArray} {A : Option Addr} {c : Nat} (x : ByteArray) (n : Nat) (hn : n ≤ l.length) (hl : l.length ≤ 1000000) {w : World} (h : ReadsF base encS (.slice A l.length c) l w) (c' : Nat) :
    Calls Try.prog 53 #[.slice A n c', .string x] w fun e w' => e = .returned (.bool (has (l.take n) x)) ∧ w = w' := by
  rcases Nat.eq_zero_or_pos n with rfl | h0
  · refine (Try.slices_Contains_string_empty A c' x w).mono ?_
    rintro e w' ⟨rfl, rfl⟩
    refine ⟨?_, rfl⟩
    rw [List.take_zero]
    exact ret_bool (by rw [has_false.mpr (by simp)])
  · obtain ⟨A', c0, e, _, hr⟩ := h
    cases e
    rcases hr with rfl | ⟨g, rfl, _, hr⟩
    · simp at hn; omega
    refine (Try.slices_Contains_string g 0 n c' l x w hn (by omega) (fun j hj => ?_)).mono ?_
    · rw [Nat.zero_add, List.getD_eq_getElem?_getD, List.getElem?_eq_getElem hj]
      exact row_strg hr hj
    · rintro e w' ⟨rfl, rfl⟩
      exact ⟨rfl, rfl⟩

theorem seErr_drop {s : List ByteArray} {k : Nat} (h : k < s.length) : seErr (s.drop k) (s.take k) = if em s[k] = true then seErr (s.drop (k + 1)) (s.take (k + 1)) else if keyB s[k] = false then 5 else if has (s.take k) s[k] = true then 6 else seErr (s.drop (k + 1)) (s.take (k + 1)) := by
  rw [drop_at s h, seErr, List.take_succ_eq_append_getElem h]

set_option maxHeartbeats 2000000 in
theorem checkSetup_any {base : Nat} {s : List ByteArray} {v : Value} (hl : s.length ≤ 1000000) {w : World} (h : ReadsF base encS v s w) :
    Calls Try.prog 37 #[v] w fun e w' => e = .returned (.int .i64 (setErr s)) ∧ w = w' := by
  have hr := h
  obtain ⟨A, c, rfl, hcap, h⟩ := h
  have HE : Hid (setErr s = if s = [] then 8 else if 100 < s.length then 2 else seErr s []) := rfl
  by_cases h0 : s.length = 0
  · obtain rfl : s = [] := List.length_eq_zero_iff.mp h0
    go_enter Try.func37, Try.ntmps37
    go_wp2_with fail
    go_ret
    exact ⟨ret_int (by rw [HE.out]; rfl), rfl⟩
  have hne : ¬ s = [] := fun h => h0 (by rw [h]; rfl)
  have h01 : ((s.length : Int) == 0) = false := beq_eq_false_iff_ne.mpr (by omega)
  by_cases hn : 100 < s.length
  · go_enter Try.func37, Try.ntmps37
    go_wp2_with fail
    go_ret
    exact ⟨ret_int (by rw [HE.out, if_neg hne, if_pos hn]), rfl⟩
  have HE2 : Hid (setErr s = seErr (s.drop 0) (s.take 0)) := HE.out.trans ((if_neg hne).trans (if_neg hn))
  have CC := Lib.hid (fun (x : ByteArray) (n : Nat) (hn : n ≤ s.length) => contains_any x n hn hl hr c)
  rcases h with h | ⟨g, rfl, _, hrow⟩
  · exact absurd h hne
  clear HE hne hr
  go_enter Try.func37, Try.ntmps37
  go_wp2_with fail
  clear h0 h01
  go_loopw [13] (fun kk wr => ∃ k : Nat, k ≤ s.length ∧ kk = .int .i64 k ∧ w = wr ∧ Hid (setErr s = seErr (s.drop k) (s.take k))) (fun kk _ => s.length - (intOf kk).toNat)
  case atStart => exact ⟨0, by omega, rfl, rfl, HE2⟩
  case round =>
    obtain ⟨k, hk, rfl, rfl, HO⟩ := hrel
    by_cases hlt : k < s.length
    · have c0 := row_strg hrow hlt
      have HD := Lib.hid (HO.out.trans (seErr_drop hlt))
      have HX : Hid (has (s.take k) s[k] = has (s.take k) s[k]) := rfl
      have CX := Lib.hid (CC.out s[k] k hk)
      generalize s[k] = x at *
      have hgl := hrow.1
      have i1 : (0 : Int) ≤ (k : Int) := by omega
      have i2 : (k : Int) < (s.length : Int) := by omega
      have HROW := Lib.hid hrow
      clear hrow HO
      cases he : x.toList.isEmpty
      · have HD1 := Lib.hid (HD.out.trans (if_neg (by unfold em; rw [he]; simp)))
        have CK := Lib.hid (fun W => key_any x W)
        cases hk1 : keyB x
        · have HF := Lib.hid (HD1.out.trans (if_pos hk1))
          rw [hk1] at CK
          clear hk1
          go_wp2_with fail
          refine (CK.out _).mono ?_
          rintro e w' ⟨rfl, rfl⟩
          go_wp2_with fail
          go_ret
          exact ⟨ret_int HF.out.symm, rfl⟩
        · have HD2 := Lib.hid (HD1.out.trans (if_neg (by rw [hk1]; simp)))
          rw [hk1] at CK
          clear hk1
          cases hh : has (s.take k) x
          · have HF := Lib.hid (HD2.out.trans (if_neg (by rw [hh]; simp)))
            rw [hh] at CX
            clear hh
            go_wp2_with fail
            refine (CK.out _).mono ?_
            rintro e w' ⟨rfl, rfl⟩
            go_wp2_with fail
            refine CX.out.mono ?_
            rintro e w' ⟨rfl, rfl⟩
            go_wp2_with fail
            go_roundw
            case rel => exact ⟨k + 1, by omega, by go_num, by trivial, HF⟩
            case measure => simp [intOf]; omega
          · have HF := Lib.hid (HD2.out.trans (if_pos hh))
            rw [hh] at CX
            clear hh
            go_wp2_with fail
            refine (CK.out _).mono ?_
            rintro e w' ⟨rfl, rfl⟩
            go_wp2_with fail
            refine CX.out.mono ?_
            rintro e w' ⟨rfl, rfl⟩
            go_wp2_with fail
            go_ret
            exact ⟨ret_int HF.out.symm, rfl⟩
      · have HF := Lib.hid (HD.out.trans (if_pos he))
        go_wp2_with fail
        go_roundw
        case rel => exact ⟨k + 1, by omega, by go_num, by trivial, HF⟩
        case measure => simp [intOf]; omega
    · have HALL : Hid (setErr s = 0) := HO.out.trans (by rw [List.drop_eq_nil_of_le (by omega)]; rfl)
      go_wp2_with fail
      go_ret
      exact ⟨ret_int HALL.out.symm, rfl⟩
set_option maxHeartbeats 2000000 in
theorem setupFault_any {base : Nat} {s : List ByteArray} {v : Value} (hl : s.length ≤ 1000000) {w : World} (h : ReadsF base encS v s w) :
    Calls Try.prog 31 #[v] w fun e w' => e = .returned (.int .i64 (setErr s)) ∧ w = w' := by
  have hr := h
  obtain ⟨A, c, rfl, hcap, h⟩ := h
  have HE : Hid (setErr s = if s = [] then 8 else if 100 < s.length then 2 else seErr s []) := rfl
  by_cases h0 : s.length = 0
  · obtain rfl : s = [] := List.length_eq_zero_iff.mp h0
    go_enter Try.func31, Try.ntmps31
    go_wp2_with fail
    go_ret
    exact ⟨ret_int (by rw [HE.out]; rfl), rfl⟩
  have hne : ¬ s = [] := fun h => h0 (by rw [h]; rfl)
  have h01 : ((s.length : Int) == 0) = false := beq_eq_false_iff_ne.mpr (by omega)
  by_cases hn : 100 < s.length
  · go_enter Try.func31, Try.ntmps31
    go_wp2_with fail
    go_ret
    exact ⟨ret_int (by rw [HE.out, if_neg hne, if_pos hn]), rfl⟩
  have HE2 : Hid (setErr s = seErr (s.drop 0) (s.take 0)) := HE.out.trans ((if_neg hne).trans (if_neg hn))
  have CC := Lib.hid (fun (x : ByteArray) (n : Nat) (hn : n ≤ s.length) => contains_any x n hn hl hr c)
  rcases h with h | ⟨g, rfl, _, hrow⟩
  · exact absurd h hne
  clear HE hne hr
  go_enter Try.func31, Try.ntmps31
  go_wp2_with fail
  clear h0 h01
  go_loopw [15] (fun kk wr => ∃ k : Nat, k ≤ s.length ∧ kk = .int .i64 k ∧ w = wr ∧ Hid (setErr s = seErr (s.drop k) (s.take k))) (fun kk _ => s.length - (intOf kk).toNat)
  case atStart => exact ⟨0, by omega, rfl, rfl, HE2⟩
  case round =>
    obtain ⟨k, hk, rfl, rfl, HO⟩ := hrel
    by_cases hlt : k < s.length
    · have c0 := row_strg hrow hlt
      have HD := Lib.hid (HO.out.trans (seErr_drop hlt))
      have HX : Hid (has (s.take k) s[k] = has (s.take k) s[k]) := rfl
      have CX := Lib.hid (CC.out s[k] k hk)
      generalize s[k] = x at *
      have hgl := hrow.1
      have i1 : (0 : Int) ≤ (k : Int) := by omega
      have i2 : (k : Int) < (s.length : Int) := by omega
      have HROW := Lib.hid hrow
      clear hrow HO
      cases he : x.toList.isEmpty
      · have HD1 := Lib.hid (HD.out.trans (if_neg (by unfold em; rw [he]; simp)))
        have CK := Lib.hid (fun W => refKey_any x W)
        cases hk1 : keyB x
        · have HF := Lib.hid (HD1.out.trans (if_pos hk1))
          rw [hk1] at CK
          clear hk1
          go_wp2_with fail
          refine (CK.out _).mono ?_
          rintro e w' ⟨rfl, rfl⟩
          go_wp2_with fail
          go_ret
          exact ⟨ret_int HF.out.symm, rfl⟩
        · have HD2 := Lib.hid (HD1.out.trans (if_neg (by rw [hk1]; simp)))
          rw [hk1] at CK
          clear hk1
          cases hh : has (s.take k) x
          · have HF := Lib.hid (HD2.out.trans (if_neg (by rw [hh]; simp)))
            rw [hh] at CX
            clear hh
            go_wp2_with fail
            refine (CK.out _).mono ?_
            rintro e w' ⟨rfl, rfl⟩
            go_wp2_with fail
            refine CX.out.mono ?_
            rintro e w' ⟨rfl, rfl⟩
            go_wp2_with fail
            go_roundw
            case rel => exact ⟨k + 1, by omega, by go_num, by trivial, HF⟩
            case measure => simp [intOf]; omega
          · have HF := Lib.hid (HD2.out.trans (if_pos hh))
            rw [hh] at CX
            clear hh
            go_wp2_with fail
            refine (CK.out _).mono ?_
            rintro e w' ⟨rfl, rfl⟩
            go_wp2_with fail
            refine CX.out.mono ?_
            rintro e w' ⟨rfl, rfl⟩
            go_wp2_with fail
            go_ret
            exact ⟨ret_int HF.out.symm, rfl⟩
      · have HF := Lib.hid (HD.out.trans (if_pos he))
        go_wp2_with fail
        go_roundw
        case rel => exact ⟨k + 1, by omega, by go_num, by trivial, HF⟩
        case measure => simp [intOf]; omega
    · have HALL : Hid (setErr s = 0) := HO.out.trans (by rw [List.drop_eq_nil_of_le (by omega)]; rfl)
      go_wp2_with fail
      go_ret
      exact ⟨ret_int HALL.out.symm, rfl⟩
end Go.Proofs.Ytjmjmijjdgolfaa
