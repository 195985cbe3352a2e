/-
  The checks of parts, the program's and the reference's.
-/
import Derived.Test.YtjmjmijjdgolfaaSeA
namespace Go.Proofs.Ytjmjmijjdgolfaa
open Go.RowKit

def prevL (l : List ByteArray) : Nat → Option ByteArray
  | 0 => none
  | k + 1 => l[k]?
theorem prevL_succ {l : List ByteArray} {k : Nat} (h : k < l.length) : prevL l (k + 1) = some l[k] := List.getElem?_eq_getElem h
theorem leS_nil {x : ByteArray} (h : keyB x = true) : leS x dS = false := by
  rw [leS_false]
  have := key_not_em h
  rcases hx : bt x with _ | ⟨a, r⟩
  · exact absurd (bt_inj (show bt x = bt dS from hx)) (fun e => by rw [(em_iff x).mpr e] at this; cases this)
  · exact List.nil_lt_cons _ _

set_option maxHeartbeats 4000000 in
theorem rising_any {base : Nat} {l : List ByteArray} {v : Value} (hl : l.length ≤ 1000000) {w : World} (h : ReadsF base encS v l w) :
    Calls Try.prog 79 #[v] w fun e w' => e = .returned (.int .i64 (paErr l none)) ∧ w = w' := by
  obtain ⟨A, c, rfl, hcap, hr⟩ := h
  go_enter Try.func79, Try.ntmps79
  go_wp2_with fail
  go_loopw [7] (fun kk wr => ∃ i : Nat, i ≤ l.length ∧ kk = .int .i64 i ∧ w = wr ∧ Hid (paErr l none = paErr (l.drop i) (prevL l i))) (fun kk _ => l.length - (intOf kk).toNat)
  case atStart => exact ⟨0, by omega, rfl, rfl, rfl⟩
  case round =>
    obtain ⟨i, hi, rfl, rfl, HI⟩ := hrel
    by_cases hli : i < l.length
    · rcases hr with hr | ⟨g', rfl, _, hrow⟩
      · subst hr; simp at hli
      have d0 := row_strg hrow hli
      have hgl' := hrow.1
      have HN := Lib.hid (prevL_succ hli)
      have HD2 : Hid (paErr l none = if keyB l[i] = false then 5 else if (prevL l i).any (leS l[i]) = true then 7 else paErr (l.drop (i + 1)) (some l[i])) := HI.out.trans (by rw [drop_at l hli, paErr])
      have HROW := Lib.hid hrow
      generalize hx : l[i] = x at *
      have j1 : (0 : Int) ≤ (i : Int) := by omega
      have j2 : (i : Int) < (l.length : Int) := by omega
      have CK := Lib.hid (fun W => key_any x W)
      clear hrow HI hx
      cases hk1 : keyB x
      · have HF := Lib.hid (HD2.out.trans (if_pos hk1))
        rw [hk1] at CK
        clear hk1
        go_wp2_with fail
        refine (CK.out _).mono ?_
        rintro e w' ⟨rfl, rfl⟩
        go_wp2_with fail
        go_ret
        exact ⟨ret_int HF.out.symm, rfl⟩
      have HD3 := Lib.hid (HD2.out.trans (if_neg (by rw [hk1]; simp)))
      rw [hk1] at CK
      clear hk1
      by_cases hi0 : i = 0
      · have HF : Hid (paErr l none = paErr (l.drop (i + 1)) (prevL l (i + 1))) := HD3.out.trans (by rw [if_neg (by rw [hi0]; simp [prevL]), HN.out])
        have hd0 : decide (0 < i) = false := decide_eq_false (by omega)
        clear hi0
        go_wp2_with fail
        refine (CK.out _).mono ?_
        rintro e w' ⟨rfl, rfl⟩
        go_wp2_with fail
        clear hd0
        go_wp2_with fail
        go_roundw
        case rel => exact ⟨i + 1, by omega, by go_num, by trivial, HF⟩
        case measure => simp [intOf]; omega
      · have hwi : IntKind.i64.wrap ((i : Int) - 1) = (i : Int) - 1 := IntWalk.i64_in ((i : Int) - 1) (by omega)
        have hpv : prevL l i = some l[i - 1] := by
          obtain ⟨m, rfl⟩ : ∃ m, i = m + 1 := ⟨i - 1, by omega⟩
          exact prevL_succ (show m < l.length by omega)
        have m1 := row_strg HROW.out (show i - 1 < l.length by omega)
        rw [hpv] at HD3
        generalize l[i - 1] = y at *
        have HY : Hid ((some y).any (leS x) = leS x y) := rfl
        have HLES : leS x y = (Op.bytesLess x.toList y.toList || (x.toList == y.toList)) := rfl
        have hd0 : 0 < i := by omega
        clear hpv
        cases hle : leS x y
        · have HF : Hid (paErr l none = paErr (l.drop (i + 1)) (prevL l (i + 1))) := HD3.out.trans (by rw [if_neg (by rw [HY.out, hle]; simp), HN.out])
          rw [hle] at HLES
          have hle2 := HLES.symm
          clear hle HLES
          go_wp2_with fail
          refine (CK.out _).mono ?_
          rintro e w' ⟨rfl, rfl⟩
          go_wp2_with fail
          go_roundw
          case rel => exact ⟨i + 1, by omega, by go_num, by trivial, HF⟩
          case measure => simp [intOf]; omega
        · have HF := Lib.hid (HD3.out.trans (if_pos (by rw [HY.out, hle])))
          rw [hle] at HLES
          have hle2 := HLES.symm
          clear hle HLES
          go_wp2_with fail
          refine (CK.out _).mono ?_
          rintro e w' ⟨rfl, rfl⟩
          go_wp2_with fail
          go_ret
          exact ⟨ret_int HF.out.symm, rfl⟩
    · have HF := Lib.hid (HI.out.trans (show paErr (l.drop i) (prevL l i) = 0 by rw [List.drop_eq_nil_of_le (by omega)]; rfl))
      go_wp2_with fail
      go_ret
      exact ⟨ret_int HF.out.symm, rfl⟩

set_option maxHeartbeats 4000000 in
theorem checkParts_any {base : Nat} (slots : Int) {p : List (List ByteArray)} {v : Value} (hl : p.length ≤ 1000000) (hs : ∀ l ∈ p, l.length ≤ 1000000) {w : World} (h : ListsF base v p w) :
    Calls Try.prog 38 #[.int .i64 slots, v] w fun e w' => e = .returned (.int .i64 (partsErr slots p)) ∧ w = w' := by
  obtain ⟨A, c, rfl, hcap, h⟩ := h
  have HE : Hid (partsErr slots p = if inR slots 1 100 = false then 1 else if 200 < p.length then 2 else psErr slots p) := rfl
  have CI := Lib.hid (fun W => withinR slots 1 100 W)
  cases h1 : inR slots 1 100
  · rw [h1] at CI
    have HF := Lib.hid (HE.out.trans (if_pos h1))
    clear h1
    go_enter Try.func38, Try.ntmps38
    go_wp2_with fail
    refine (CI.out _).mono ?_
    rintro e w' ⟨rfl, rfl⟩
    go_wp2_with fail
    go_ret
    exact ⟨ret_int HF.out.symm, rfl⟩
  rw [h1] at CI
  have HE1 := Lib.hid (HE.out.trans (if_neg (by rw [h1]; simp)))
  clear h1 HE
  by_cases hn : 200 < p.length
  · have HF := Lib.hid (HE1.out.trans (if_pos hn))
    go_enter Try.func38, Try.ntmps38
    go_wp2_with fail
    refine (CI.out _).mono ?_
    rintro e w' ⟨rfl, rfl⟩
    go_wp2_with fail
    go_ret
    exact ⟨ret_int HF.out.symm, rfl⟩
  have HE2 : Hid (partsErr slots p = psErr slots (p.drop 0)) := HE1.out.trans (if_neg hn)
  have HH := Lib.hid h
  clear HE1 h
  go_enter Try.func38, Try.ntmps38
  go_wp2_with fail
  refine (CI.out _).mono ?_
  rintro e w' ⟨rfl, rfl⟩
  go_wp2_with fail
  clear CI
  go_loopw [16] (fun kk wr => ∃ k : Nat, k ≤ p.length ∧ kk = .int .i64 k ∧ w = wr ∧ Hid (partsErr slots p = psErr slots (p.drop k))) (fun kk _ => p.length - (intOf kk).toNat)
  case atStart => exact ⟨0, by omega, rfl, rfl, HE2⟩
  case round =>
    obtain ⟨k, hk, rfl, rfl, HO⟩ := hrel
    by_cases hlt : k < p.length
    · rcases HH.out with hp | ⟨g, o, rfl, _, hgl, hcells⟩
      · subst hp; simp at hlt
      obtain ⟨u, c0, hu⟩ := hcells k hlt
      have hll := hs p[k] (List.getElem_mem hlt)
      have HD : Hid (partsErr slots p = if slots < p[k].length then 12 else if paErr p[k] none = 0 then psErr slots (p.drop (k + 1)) else paErr p[k] none) := HO.out.trans (by rw [drop_at p hlt, psErr])
      generalize p[k] = l at *
      obtain ⟨A', c', rfl, hcap', hr⟩ := hu
      have HCE := Lib.hid hcells
      have i1 : (0 : Int) ≤ (k : Int) := by omega
      have i2 : (k : Int) < (p.length : Int) := by omega
      clear hcells HO
      by_cases hf : slots < (l.length : Int)
      · have HF := Lib.hid (HD.out.trans (if_pos hf))
        go_wp2_with fail
        go_ret
        exact ⟨ret_int HF.out.symm, rfl⟩
      have HD1 := Lib.hid (HD.out.trans (if_neg hf))
      clear HD
      have CR := Lib.hid (fun (W : World) (h : ReadsF base encS (.slice A' l.length c') l W) => rising_any hll h)
      have HR := Lib.hid (show ReadsF base encS (.slice A' l.length c') l w from ⟨A', c', rfl, hcap', hr⟩)
      clear hr
      generalize paErr l none = E at *
      by_cases h0 : E = 0
      · have HF := Lib.hid (HD1.out.trans (if_pos h0))
        subst h0
        go_wp2_with fail
        refine (CR.out _ HR.out).mono ?_
        rintro e w' ⟨rfl, rfl⟩
        go_wp2_with fail
        go_roundw
        case rel => exact ⟨k + 1, by omega, by go_num, by trivial, HF⟩
        case measure => simp [intOf]; omega
      · have HF := Lib.hid (HD1.out.trans (if_neg h0))
        go_wp2_with fail
        refine (CR.out _ HR.out).mono ?_
        rintro e w' ⟨rfl, rfl⟩
        go_wp2_with fail
        go_ret
        exact ⟨ret_int HF.out.symm, rfl⟩
    · have HALL : Hid (partsErr slots p = 0) := HO.out.trans (by rw [List.drop_eq_nil_of_le (by omega)]; rfl)
      go_wp2_with fail
      go_ret
      exact ⟨ret_int HALL.out.symm, rfl⟩
def lastL (l : List ByteArray) : Nat → ByteArray
  | 0 => ⟨#[]⟩
  | k + 1 => nth l k
theorem lastL_succ {l : List ByteArray} {k : Nat} (h : k < l.length) : lastL l (k + 1) = l[k] := nth_at h
theorem last_prev {l : List ByteArray} {i : Nat} (hi : i ≤ l.length) {x : ByteArray} (h : keyB x = true) : (prevL l i).any (leS x) = leS x (lastL l i) := by
  cases i with
  | zero => exact (leS_nil h).symm
  | succ k => rw [prevL_succ (by omega), lastL_succ (by omega)]; rfl

set_option maxHeartbeats 4000000 in
theorem partsFault_any {base : Nat} (slots : Int) {p : List (List ByteArray)} {v : Value} (hl : p.length ≤ 1000000) (hs : ∀ l ∈ p, l.length ≤ 1000000) {w : World} (h : ListsF base v p w) :
    Calls Try.prog 32 #[.int .i64 slots, v] w fun e w' => e = .returned (.int .i64 (partsErr slots p)) ∧ w = w' := by
  obtain ⟨A, c, rfl, hcap, h⟩ := h
  have HE : Hid (partsErr slots p = if inR slots 1 100 = false then 1 else if 200 < p.length then 2 else psErr slots p) := rfl
  have CI := Lib.hid (fun W => refinR slots 1 100 W)
  cases h1 : inR slots 1 100
  · rw [h1] at CI
    have HF := Lib.hid (HE.out.trans (if_pos h1))
    clear h1
    go_enter Try.func32, Try.ntmps32
    go_wp2_with fail
    refine (CI.out _).mono ?_
    rintro e w' ⟨rfl, rfl⟩
    go_wp2_with fail
    go_ret
    exact ⟨ret_int HF.out.symm, rfl⟩
  rw [h1] at CI
  have HE1 := Lib.hid (HE.out.trans (if_neg (by rw [h1]; simp)))
  clear h1 HE
  by_cases hn : 200 < p.length
  · have HF := Lib.hid (HE1.out.trans (if_pos hn))
    go_enter Try.func32, Try.ntmps32
    go_wp2_with fail
    refine (CI.out _).mono ?_
    rintro e w' ⟨rfl, rfl⟩
    go_wp2_with fail
    go_ret
    exact ⟨ret_int HF.out.symm, rfl⟩
  have HE2 : Hid (partsErr slots p = psErr slots (p.drop 0)) := HE1.out.trans (if_neg hn)
  have HH := Lib.hid h
  clear HE1 h
  go_enter Try.func32, Try.ntmps32
  go_wp2_with fail
  refine (CI.out _).mono ?_
  rintro e w' ⟨rfl, rfl⟩
  go_wp2_with fail
  clear CI
  go_loopw [20] (fun kk wr => ∃ k : Nat, k ≤ p.length ∧ kk = .int .i64 k ∧ w = wr ∧ Hid (partsErr slots p = psErr slots (p.drop k))) (fun kk _ => p.length - (intOf kk).toNat)
  case atStart => exact ⟨0, by omega, rfl, rfl, HE2⟩
  case round =>
    obtain ⟨k, hk, rfl, rfl, HO⟩ := hrel
    by_cases hlt : k < p.length
    · rcases HH.out with hp | ⟨g, o, rfl, _, hgl, hcells⟩
      · subst hp; simp at hlt
      obtain ⟨u, c0, hu⟩ := hcells k hlt
      have hll := hs p[k] (List.getElem_mem hlt)
      have HD : Hid (partsErr slots p = if slots < p[k].length then 12 else if paErr p[k] none = 0 then psErr slots (p.drop (k + 1)) else paErr p[k] none) := HO.out.trans (by rw [drop_at p hlt, psErr])
      generalize p[k] = l at *
      obtain ⟨A', c', rfl, hcap', hr⟩ := hu
      have HCE := Lib.hid hcells
      have i1 : (0 : Int) ≤ (k : Int) := by omega
      have i2 : (k : Int) < (p.length : Int) := by omega
      clear hcells HO
      by_cases hf : slots < (l.length : Int)
      · have HF := Lib.hid (HD.out.trans (if_pos hf))
        go_wp2_with fail
        go_ret
        exact ⟨ret_int HF.out.symm, rfl⟩
      have HD1 := Lib.hid (HD.out.trans (if_neg hf))
      clear HD
      go_wp2_with fail
      go_loopw [7, 30] (fun lv kk wr => ∃ i : Nat, i ≤ l.length ∧ lv = .string (lastL l i) ∧ kk = .int .i64 i ∧ w = wr ∧ Hid (paErr l none = paErr (l.drop i) (prevL l i))) (fun _ kk _ => l.length - (intOf kk).toNat)
      case atStart => exact ⟨0, by omega, rfl, rfl, rfl, rfl⟩
      case round =>
        obtain ⟨i, hi, rfl, rfl, rfl, HI⟩ := hrel
        by_cases hli : i < l.length
        · rcases hr with hr | ⟨g', rfl, _, hrow⟩
          · subst hr; simp at hli
          have d0 := row_strg hrow hli
          have hgl' := hrow.1
          have HN := Lib.hid (prevL_succ hli)
          have HL : Hid (lastL l (i + 1) = l[i]) := lastL_succ hli
          have HD2 : Hid (paErr l none = if keyB l[i] = false then 5 else if (prevL l i).any (leS l[i]) = true then 7 else paErr (l.drop (i + 1)) (some l[i])) := HI.out.trans (by rw [drop_at l hli, paErr])
          have HROW := Lib.hid hrow
          have HPL := Lib.hid (fun (x : ByteArray) (h : keyB x = true) => last_prev (l := l) (i := i) (by omega) h)
          generalize hx : l[i] = x at *
          have j1 : (0 : Int) ≤ (i : Int) := by omega
          have j2 : (i : Int) < (l.length : Int) := by omega
          have CK := Lib.hid (fun W => refKey_any x W)
          clear hrow HI hx
          generalize lastL l i = y at *
          cases hk1 : keyB x
          · have HP := Lib.hid (HD2.out.trans (if_pos hk1))
            have HF : Hid (partsErr slots p = 5) := HD1.out.trans (by rw [if_neg (by rw [HP.out]; decide), HP.out])
            rw [hk1] at CK
            clear hk1
            go_wp2_with fail
            refine (CK.out _).mono ?_
            rintro e w' ⟨rfl, rfl⟩
            go_wp2_with fail
            go_ret
            exact ⟨ret_int HF.out.symm, rfl⟩
          have HD3 := Lib.hid (HD2.out.trans (if_neg (by rw [hk1]; simp)))
          have HPX := Lib.hid (HPL.out x hk1)
          rw [hk1] at CK
          clear hk1 HPL
          have HLES : leS x y = (Op.bytesLess x.toList y.toList || (x.toList == y.toList)) := rfl
          cases hle : leS x y
          · have HF : Hid (paErr l none = paErr (l.drop (i + 1)) (prevL l (i + 1))) := HD3.out.trans (by rw [HPX.out, if_neg (by rw [hle]; simp), HN.out])
            rw [hle] at HLES
            have hle2 := HLES.symm
            clear hle HLES
            go_wp2_with fail
            refine (CK.out _).mono ?_
            rintro e w' ⟨rfl, rfl⟩
            go_wp2_with fail
            go_roundw
            case rel => exact ⟨i + 1, by omega, by rw [HL.out], by go_num, by trivial, HF⟩
            case measure => simp [intOf]; omega
          · have HP : Hid (paErr l none = 7) := HD3.out.trans (by rw [HPX.out, if_pos hle])
            have HF : Hid (partsErr slots p = 7) := HD1.out.trans (by rw [if_neg (by rw [HP.out]; decide), HP.out])
            rw [hle] at HLES
            have hle2 := HLES.symm
            clear hle HLES
            go_wp2_with fail
            refine (CK.out _).mono ?_
            rintro e w' ⟨rfl, rfl⟩
            go_wp2_with fail
            go_ret
            exact ⟨ret_int HF.out.symm, rfl⟩
        · have HP : Hid (paErr l none = 0) := HI.out.trans (by rw [List.drop_eq_nil_of_le (by omega)]; rfl)
          have HF : Hid (partsErr slots p = psErr slots (p.drop (k + 1))) := HD1.out.trans (if_pos HP.out)
          go_wp2_with fail
          go_roundw
          case rel => exact ⟨k + 1, by omega, by go_num, by trivial, HF⟩
          case measure => simp [intOf]; omega
    · have HALL : Hid (partsErr slots p = 0) := HO.out.trans (by rw [List.drop_eq_nil_of_le (by omega)]; rfl)
      go_wp2_with fail
      go_ret
      exact ⟨ret_int HALL.out.symm, rfl⟩
end Go.Proofs.Ytjmjmijjdgolfaa
