/-
  The walks of the reference's keys and faults. The checks of setups, the program's and the reference's. The checks of parts, the program's and the reference's.
-/
import Derived.Test.YtmjonmoagpkdiabGreatDoorLmA
import Derived.Test.YtmjonmoagpkdiabGreatDoorShelf
namespace Go.Proofs.YtmjonmoagpkdiabGreatDoor
open Go.RowKit

def memB (some : List UInt8) (x : UInt8) : Bool := !decide (Lib.indexByte some x < 0)
def onlyL (some l : List UInt8) : Bool := l.all (memB some)
def onlyB (s some : ByteArray) : Bool := onlyL some.data.toList s.data.toList
theorem onlyB_all (s some : ByteArray) : onlyB s some = true ↔ ∀ i (h : i < s.size), memB some.data.toList (s[i]'h) = true := by
  unfold onlyB onlyL
  rw [List.all_eq_true]
  constructor
  · intro h i hi
    exact h _ (by obtain ⟨d⟩ := s; show d[i]'hi ∈ d.toList; simp)
  · intro h x hx
    obtain ⟨j, hj, rfl⟩ := List.getElem_of_mem hx
    exact h j (by simpa using hj)

theorem u8_back (x : UInt8) : ((x.toNat : Int)).toNat.toUInt8 = x := by simp

set_option maxHeartbeats 1000000 in
theorem only_any (s some : ByteArray) (w : World) (hs : s.size ≤ 1000000) : Calls Tryz.prog 52 #[.string s, .string some] w fun e w' => e = .returned (.bool (onlyB s some)) ∧ w = w' := by
  have CI := Lib.hid (fun (x : UInt8) (W : World) => Tryz.strings_IndexByte some (x.toNat : Int) W)
  simp only [u8_back] at CI
  have HA := Lib.hid (onlyB_all s some)
  go_enter Tryz.func52, Tryz.ntmps52
  go_wp2_with fail
  go_loopw [8] (fun kk wr => ∃ k : Nat, k ≤ s.size ∧ kk = .int .i64 k ∧ w = wr ∧ Hid (∀ j (h : j < s.size), j < k → memB some.data.toList (s[j]'h) = true)) (fun kk _ => s.size - (intOf kk).toNat)
  case atStart => exact ⟨0, by omega, rfl, rfl, fun j _ h => by omega⟩
  case round =>
    obtain ⟨k, hk, rfl, rfl, HO⟩ := hrel
    by_cases hlt : k < s.size
    · obtain ⟨x, hx⟩ : ∃ x, s[k]'hlt = x := ⟨_, rfl⟩
      obtain ⟨xi, hxi⟩ : ∃ xi : Int, ((s[k]'hlt).toNat : Int) = xi := ⟨_, rfl⟩
      have HC : Hid (∀ W : World, Calls Tryz.prog 80 #[.string some, .int .u8 xi] W fun e w' => e = .returned (.int .i64 (Lib.indexByte some.data.toList x)) ∧ w' = W) := fun W => by rw [← hxi, hx]; exact CI.out x W
      have HX := Lib.hid hx
      have HXI := Lib.hid hxi
      clear hx
      cases hm : memB some.data.toList x
      · have hneg : Lib.indexByte some.data.toList x < 0 := by simpa [memB] using hm
        have HBAD : Hid (onlyB s some = false) := by
          refine Bool.eq_false_iff.mpr fun h => ?_
          have := HA.out.mp h k hlt
          rw [HX.out, hm] at this
          cases this
        generalize Lib.indexByte some.data.toList x = q at *
        go_wp2_with fail
        refine (HC.out _).mono ?_
        rintro e w' ⟨rfl, rfl⟩
        go_wp2_with fail
        go_ret
        exact ⟨ret_bool HBAD.out.symm, rfl⟩
      · have hpos : ¬ Lib.indexByte some.data.toList x < 0 := by simpa [memB] using hm
        have HM := Lib.hid hm
        clear hm
        generalize Lib.indexByte some.data.toList x = q at *
        go_wp2_with fail
        refine (HC.out _).mono ?_
        rintro e w' ⟨rfl, rfl⟩
        go_wp2_with fail
        go_roundw
        case rel => exact ⟨k + 1, by omega, by go_num, by trivial, fun j h hj => by
          by_cases e : j = k
          · subst e; rw [HX.out]; exact HM.out
          · exact HO.out j h (by omega)⟩
        case measure => simp [intOf]; omega
    · have HALL : Hid (onlyB s some = true) := HA.out.mpr fun i hi => HO.out i hi (by omega)
      go_wp2_with fail
      go_ret
      exact ⟨ret_bool HALL.out.symm, rfl⟩

def smallsL : List UInt8 := [97, 98, 99, 100, 101, 102, 103, 104, 105, 106, 107, 108, 109, 110, 111, 112, 113, 114, 115, 116, 117, 118, 119, 120, 121, 122]
def wordsL : List UInt8 := smallsL ++ [48, 49, 50, 51, 52, 53, 54, 55, 56, 57, 45, 95]
theorem smalls_all : ∀ n, n < 256 → memB smallsL (UInt8.ofNat n) = smallB ((UInt8.ofNat n).toNat : Int) := by decide +kernel
theorem words_all : ∀ n, n < 256 → memB wordsL (UInt8.ofNat n) = keyByte ((UInt8.ofNat n).toNat : Int) := by decide +kernel
theorem smalls_mem (x : UInt8) : memB smallsL x = smallB (x.toNat : Int) := by
  have := smalls_all x.toNat x.toNat_lt
  simpa using this
theorem words_mem (x : UInt8) : memB wordsL x = keyByte (x.toNat : Int) := by
  have := words_all x.toNat x.toNat_lt
  simpa using this
theorem key_ref (s : ByteArray) : keyB s = (inR (s.size : Int) 1 40 && onlyB (s.extract 0 1) ⟨smallsL.toArray⟩ && onlyB s ⟨wordsL.toArray⟩) := by
  by_cases h0 : s.size = 0
  · rw [keyB_empty s h0]
    simp [inR, h0]
  have hp : 0 < s.size := by omega
  rw [keyB_some s hp]
  have e1 : onlyB s ⟨wordsL.toArray⟩ = s.data.toList.all fun x => keyByte x.toNat := by
    unfold onlyB onlyL
    refine List.all_congr rfl fun x => ?_
    exact words_mem x
  have e2 : onlyB (s.extract 0 1) ⟨smallsL.toArray⟩ = smallB ((s[0]'hp).toNat : Int) := by
    unfold onlyB onlyL
    obtain ⟨⟨l⟩⟩ := s
    cases l with
    | nil => simp [ByteArray.size] at hp
    | cons a l =>
      have : (ByteArray.extract ⟨⟨a :: l⟩⟩ 0 1).data.toList = [a] := by simp
      rw [this]
      simp only [List.all_cons, List.all_nil, Bool.and_true]
      exact smalls_mem a
  have e3 : inR (s.size : Int) 1 40 = decide (s.size ≤ 40) := by
    unfold inR
    rw [Bool.eq_iff_iff]
    simp
    omega
  rw [e1, e2, e3]

set_option maxHeartbeats 1000000 in
theorem refKey_any (s : ByteArray) (w : World) : Calls Tryz.prog 27 #[.string s] w fun e w' => e = .returned (.bool (keyB s)) ∧ w = w' := by
  have HK := Lib.hid (key_ref s)
  cases h1 : inR (s.size : Int) 1 40
  · have HF : Hid (keyB s = false) := HK.out.trans (by rw [h1]; rfl)
    have H1 := Lib.hid h1
    clear h1
    go_enter Tryz.func27, Tryz.ntmps27
    go_wp2_with fail
    refine (refinR _ _ _ _).mono ?_
    rw [H1.out]
    rintro e w' ⟨rfl, rfl⟩
    go_wp2_with fail
    go_ret
    exact ⟨ret_bool HF.out.symm, rfl⟩
  have hsz : 1 ≤ s.size ∧ s.size ≤ 40 := by simp [inR] at h1; omega
  obtain ⟨hsz, hs40⟩ := hsz
  have hs : s.size ≤ 1000000 := by omega
  have H1 := Lib.hid h1
  clear h1
  cases h2 : onlyB (s.extract 0 1) ⟨smallsL.toArray⟩
  · have HF : Hid (keyB s = false) := HK.out.trans (by rw [H1.out, h2]; rfl)
    have H2 := Lib.hid h2
    clear h2
    have CO := Lib.hid (fun W => only_any (s.extract 0 1) ⟨smallsL.toArray⟩ W (by simp; omega))
    go_enter Tryz.func27, Tryz.ntmps27
    go_wp2_with fail
    refine (refinR _ _ _ _).mono ?_
    rw [H1.out]
    rintro e w' ⟨rfl, rfl⟩
    go_wp2_with fail
    refine (CO.out _).mono ?_
    rw [H2.out]
    rintro e w' ⟨rfl, rfl⟩
    go_wp2_with fail
    go_ret
    exact ⟨ret_bool HF.out.symm, rfl⟩
  have HF : Hid (keyB s = onlyB s ⟨wordsL.toArray⟩) := HK.out.trans (by rw [H1.out, h2]; rfl)
  have H2 := Lib.hid h2
  clear h2
  have CO := Lib.hid (fun W => only_any (s.extract 0 1) ⟨smallsL.toArray⟩ W (by simp; omega))
  have CP := Lib.hid (fun W => only_any s ⟨wordsL.toArray⟩ W hs)
  go_enter Tryz.func27, Tryz.ntmps27
  go_wp2_with fail
  refine (refinR _ _ _ _).mono ?_
  rw [H1.out]
  rintro e w' ⟨rfl, rfl⟩
  go_wp2_with fail
  refine (CO.out _).mono ?_
  rw [H2.out]
  rintro e w' ⟨rfl, rfl⟩
  go_wp2_with fail
  refine (CP.out _).mono ?_
  rintro e w' ⟨rfl, rfl⟩
  go_wp2_with fail
  go_ret
  exact ⟨ret_bool HF.out.symm, rfl⟩
end Go.Proofs.YtmjonmoagpkdiabGreatDoor
namespace Go.Proofs.YtmjonmoagpkdiabGreatDoor
open Go.RowKit

/-- slices.Contains at the head of a slice that reads as strings. -/
theorem contains_any {base : Nat} {l : List ByteArray} {A : Option Addr} {c : Nat} (x : ByteArray) (n : Nat) (hn : n ≤ l.length) (hl : l.length ≤ 1000000) {w : World} (h : ReadsF base encS (.slice A l.length c) l w) (c' : Nat) :
    Calls Tryz.prog 94 #[.slice A n c', .string x] w fun e w' => e = .returned (.bool (has (l.take n) x)) ∧ w = w' := by
  rcases Nat.eq_zero_or_pos n with rfl | h0
  · refine (Tryz.slices_Contains_string_empty A c' x w).mono ?_
    rintro e w' ⟨rfl, rfl⟩
    refine ⟨?_, rfl⟩
    rw [List.take_zero]
    exact ret_bool (by rw [has_false.mpr (by simp)])
  · obtain ⟨A', c0, e, _, hr⟩ := h
    cases e
    rcases hr with rfl | ⟨g, rfl, _, hr⟩
    · simp at hn; omega
    refine (Tryz.slices_Contains_string g 0 n c' l x w hn (by omega) (fun j hj => ?_)).mono ?_
    · rw [Nat.zero_add, List.getD_eq_getElem?_getD, List.getElem?_eq_getElem hj]
      exact row_strg hr hj
    · rintro e w' ⟨rfl, rfl⟩
      exact ⟨rfl, rfl⟩

theorem seErr_drop {s : List ByteArray} {k : Nat} (h : k < s.length) : seErr (s.drop k) (s.take k) = if em s[k] = true then seErr (s.drop (k + 1)) (s.take (k + 1)) else if keyB s[k] = false then 5 else if has (s.take k) s[k] = true then 6 else seErr (s.drop (k + 1)) (s.take (k + 1)) := by
  rw [drop_at s h, seErr, List.take_succ_eq_append_getElem h]

set_option maxHeartbeats 2000000 in
theorem checkSetup_any {base : Nat} {s : List ByteArray} {v : Value} (hl : s.length ≤ 1000000) {w : World} (h : ReadsF base encS v s w) :
    Calls Tryz.prog 69 #[v] w fun e w' => e = .returned (.int .i64 (setErr s)) ∧ w = w' := by
  have hr := h
  obtain ⟨A, c, rfl, hcap, h⟩ := h
  have HE : Hid (setErr s = if s = [] then 8 else if 100 < s.length then 2 else seErr s []) := rfl
  by_cases h0 : s.length = 0
  · obtain rfl : s = [] := List.length_eq_zero_iff.mp h0
    go_enter Tryz.func69, Tryz.ntmps69
    go_wp2_with fail
    go_ret
    exact ⟨ret_int (by rw [HE.out]; rfl), rfl⟩
  have hne : ¬ s = [] := fun h => h0 (by rw [h]; rfl)
  have h01 : ((s.length : Int) == 0) = false := beq_eq_false_iff_ne.mpr (by omega)
  by_cases hn : 100 < s.length
  · go_enter Tryz.func69, Tryz.ntmps69
    go_wp2_with fail
    go_ret
    exact ⟨ret_int (by rw [HE.out, if_neg hne, if_pos hn]), rfl⟩
  have HE2 : Hid (setErr s = seErr (s.drop 0) (s.take 0)) := HE.out.trans ((if_neg hne).trans (if_neg hn))
  have CC := Lib.hid (fun (x : ByteArray) (n : Nat) (hn : n ≤ s.length) => contains_any x n hn hl hr c)
  rcases h with h | ⟨g, rfl, _, hrow⟩
  · exact absurd h hne
  clear HE hne hr
  go_enter Tryz.func69, Tryz.ntmps69
  go_wp2_with fail
  clear h0 h01
  go_loopw [13] (fun kk wr => ∃ k : Nat, k ≤ s.length ∧ kk = .int .i64 k ∧ w = wr ∧ Hid (setErr s = seErr (s.drop k) (s.take k))) (fun kk _ => s.length - (intOf kk).toNat)
  case atStart => exact ⟨0, by omega, rfl, rfl, HE2⟩
  case round =>
    obtain ⟨k, hk, rfl, rfl, HO⟩ := hrel
    by_cases hlt : k < s.length
    · have c0 := row_strg hrow hlt
      have HD := Lib.hid (HO.out.trans (seErr_drop hlt))
      have HX : Hid (has (s.take k) s[k] = has (s.take k) s[k]) := rfl
      have CX := Lib.hid (CC.out s[k] k hk)
      generalize s[k] = x at *
      have hgl := hrow.1
      have i1 : (0 : Int) ≤ (k : Int) := by omega
      have i2 : (k : Int) < (s.length : Int) := by omega
      have HROW := Lib.hid hrow
      clear hrow HO
      cases he : x.toList.isEmpty
      · have HD1 := Lib.hid (HD.out.trans (if_neg (by unfold em; rw [he]; simp)))
        have CK := Lib.hid (fun W => key_any x W)
        cases hk1 : keyB x
        · have HF := Lib.hid (HD1.out.trans (if_pos hk1))
          rw [hk1] at CK
          clear hk1
          go_wp2_with fail
          refine (CK.out _).mono ?_
          rintro e w' ⟨rfl, rfl⟩
          go_wp2_with fail
          go_ret
          exact ⟨ret_int HF.out.symm, rfl⟩
        · have HD2 := Lib.hid (HD1.out.trans (if_neg (by rw [hk1]; simp)))
          rw [hk1] at CK
          clear hk1
          cases hh : has (s.take k) x
          · have HF := Lib.hid (HD2.out.trans (if_neg (by rw [hh]; simp)))
            rw [hh] at CX
            clear hh
            go_wp2_with fail
            refine (CK.out _).mono ?_
            rintro e w' ⟨rfl, rfl⟩
            go_wp2_with fail
            refine CX.out.mono ?_
            rintro e w' ⟨rfl, rfl⟩
            go_wp2_with fail
            go_roundw
            case rel => exact ⟨k + 1, by omega, by go_num, by trivial, HF⟩
            case measure => simp [intOf]; omega
          · have HF := Lib.hid (HD2.out.trans (if_pos hh))
            rw [hh] at CX
            clear hh
            go_wp2_with fail
            refine (CK.out _).mono ?_
            rintro e w' ⟨rfl, rfl⟩
            go_wp2_with fail
            refine CX.out.mono ?_
            rintro e w' ⟨rfl, rfl⟩
            go_wp2_with fail
            go_ret
            exact ⟨ret_int HF.out.symm, rfl⟩
      · have HF := Lib.hid (HD.out.trans (if_pos he))
        go_wp2_with fail
        go_roundw
        case rel => exact ⟨k + 1, by omega, by go_num, by trivial, HF⟩
        case measure => simp [intOf]; omega
    · have HALL : Hid (setErr s = 0) := HO.out.trans (by rw [List.drop_eq_nil_of_le (by omega)]; rfl)
      go_wp2_with fail
      go_ret
      exact ⟨ret_int HALL.out.symm, rfl⟩
end Go.Proofs.YtmjonmoagpkdiabGreatDoor
namespace Go.Proofs.YtmjonmoagpkdiabGreatDoor
open Go.RowKit

def prevL (l : List ByteArray) : Nat → Option ByteArray
  | 0 => none
  | k + 1 => l[k]?
theorem prevL_succ {l : List ByteArray} {k : Nat} (h : k < l.length) : prevL l (k + 1) = some l[k] := List.getElem?_eq_getElem h
theorem leS_nil {x : ByteArray} (h : keyB x = true) : leS x dS = false := by
  rw [leS_false]
  have := key_not_em h
  rcases hx : bt x with _ | ⟨a, r⟩
  · exact absurd (bt_inj (show bt x = bt dS from hx)) (fun e => by rw [(em_iff x).mpr e] at this; cases this)
  · exact List.nil_lt_cons _ _

set_option maxHeartbeats 4000000 in
theorem rising_any {base : Nat} {l : List ByteArray} {v : Value} (hl : l.length ≤ 1000000) {w : World} (h : ReadsF base encS v l w) :
    Calls Tryz.prog 90 #[v] w fun e w' => e = .returned (.int .i64 (paErr l none)) ∧ w = w' := by
  obtain ⟨A, c, rfl, hcap, hr⟩ := h
  go_enter Tryz.func90, Tryz.ntmps90
  go_wp2_with fail
  go_loopw [7] (fun kk wr => ∃ i : Nat, i ≤ l.length ∧ kk = .int .i64 i ∧ w = wr ∧ Hid (paErr l none = paErr (l.drop i) (prevL l i))) (fun kk _ => l.length - (intOf kk).toNat)
  case atStart => exact ⟨0, by omega, rfl, rfl, rfl⟩
  case round =>
    obtain ⟨i, hi, rfl, rfl, HI⟩ := hrel
    by_cases hli : i < l.length
    · rcases hr with hr | ⟨g', rfl, _, hrow⟩
      · subst hr; simp at hli
      have d0 := row_strg hrow hli
      have hgl' := hrow.1
      have HN := Lib.hid (prevL_succ hli)
      have HD2 : Hid (paErr l none = if keyB l[i] = false then 5 else if (prevL l i).any (leS l[i]) = true then 7 else paErr (l.drop (i + 1)) (some l[i])) := HI.out.trans (by rw [drop_at l hli, paErr])
      have HROW := Lib.hid hrow
      generalize hx : l[i] = x at *
      have j1 : (0 : Int) ≤ (i : Int) := by omega
      have j2 : (i : Int) < (l.length : Int) := by omega
      have CK := Lib.hid (fun W => key_any x W)
      clear hrow HI hx
      cases hk1 : keyB x
      · have HF := Lib.hid (HD2.out.trans (if_pos hk1))
        rw [hk1] at CK
        clear hk1
        go_wp2_with fail
        refine (CK.out _).mono ?_
        rintro e w' ⟨rfl, rfl⟩
        go_wp2_with fail
        go_ret
        exact ⟨ret_int HF.out.symm, rfl⟩
      have HD3 := Lib.hid (HD2.out.trans (if_neg (by rw [hk1]; simp)))
      rw [hk1] at CK
      clear hk1
      by_cases hi0 : i = 0
      · have HF : Hid (paErr l none = paErr (l.drop (i + 1)) (prevL l (i + 1))) := HD3.out.trans (by rw [if_neg (by rw [hi0]; simp [prevL]), HN.out])
        have hd0 : decide (0 < i) = false := decide_eq_false (by omega)
        clear hi0
        go_wp2_with fail
        refine (CK.out _).mono ?_
        rintro e w' ⟨rfl, rfl⟩
        go_wp2_with fail
        clear hd0
        go_wp2_with fail
        go_roundw
        case rel => exact ⟨i + 1, by omega, by go_num, by trivial, HF⟩
        case measure => simp [intOf]; omega
      · have hwi : IntKind.i64.wrap ((i : Int) - 1) = (i : Int) - 1 := IntWalk.i64_in ((i : Int) - 1) (by omega)
        have hpv : prevL l i = some l[i - 1] := by
          obtain ⟨m, rfl⟩ : ∃ m, i = m + 1 := ⟨i - 1, by omega⟩
          exact prevL_succ (show m < l.length by omega)
        have m1 := row_strg HROW.out (show i - 1 < l.length by omega)
        rw [hpv] at HD3
        generalize l[i - 1] = y at *
        have HY : Hid ((some y).any (leS x) = leS x y) := rfl
        have HLES : leS x y = (Op.bytesLess x.toList y.toList || (x.toList == y.toList)) := rfl
        have hd0 : 0 < i := by omega
        clear hpv
        cases hle : leS x y
        · have HF : Hid (paErr l none = paErr (l.drop (i + 1)) (prevL l (i + 1))) := HD3.out.trans (by rw [if_neg (by rw [HY.out, hle]; simp), HN.out])
          rw [hle] at HLES
          have hle2 := HLES.symm
          clear hle HLES
          go_wp2_with fail
          refine (CK.out _).mono ?_
          rintro e w' ⟨rfl, rfl⟩
          go_wp2_with fail
          go_roundw
          case rel => exact ⟨i + 1, by omega, by go_num, by trivial, HF⟩
          case measure => simp [intOf]; omega
        · have HF := Lib.hid (HD3.out.trans (if_pos (by rw [HY.out, hle])))
          rw [hle] at HLES
          have hle2 := HLES.symm
          clear hle HLES
          go_wp2_with fail
          refine (CK.out _).mono ?_
          rintro e w' ⟨rfl, rfl⟩
          go_wp2_with fail
          go_ret
          exact ⟨ret_int HF.out.symm, rfl⟩
    · have HF := Lib.hid (HI.out.trans (show paErr (l.drop i) (prevL l i) = 0 by rw [List.drop_eq_nil_of_le (by omega)]; rfl))
      go_wp2_with fail
      go_ret
      exact ⟨ret_int HF.out.symm, rfl⟩

set_option maxHeartbeats 4000000 in
theorem checkParts_any {base : Nat} (slots : Int) {p : List (List ByteArray)} {v : Value} (hl : p.length ≤ 1000000) (hs : ∀ l ∈ p, l.length ≤ 1000000) {w : World} (h : ListsF base v p w) :
    Calls Tryz.prog 70 #[.int .i64 slots, v] w fun e w' => e = .returned (.int .i64 (partsErr slots p)) ∧ w = w' := by
  obtain ⟨A, c, rfl, hcap, h⟩ := h
  have HE : Hid (partsErr slots p = if inR slots 1 100 = false then 1 else if 200 < p.length then 2 else psErr slots p) := rfl
  have CI := Lib.hid (fun W => withinR slots 1 100 W)
  cases h1 : inR slots 1 100
  · rw [h1] at CI
    have HF := Lib.hid (HE.out.trans (if_pos h1))
    clear h1
    go_enter Tryz.func70, Tryz.ntmps70
    go_wp2_with fail
    refine (CI.out _).mono ?_
    rintro e w' ⟨rfl, rfl⟩
    go_wp2_with fail
    go_ret
    exact ⟨ret_int HF.out.symm, rfl⟩
  rw [h1] at CI
  have HE1 := Lib.hid (HE.out.trans (if_neg (by rw [h1]; simp)))
  clear h1 HE
  by_cases hn : 200 < p.length
  · have HF := Lib.hid (HE1.out.trans (if_pos hn))
    go_enter Tryz.func70, Tryz.ntmps70
    go_wp2_with fail
    refine (CI.out _).mono ?_
    rintro e w' ⟨rfl, rfl⟩
    go_wp2_with fail
    go_ret
    exact ⟨ret_int HF.out.symm, rfl⟩
  have HE2 : Hid (partsErr slots p = psErr slots (p.drop 0)) := HE1.out.trans (if_neg hn)
  have HH := Lib.hid h
  clear HE1 h
  go_enter Tryz.func70, Tryz.ntmps70
  go_wp2_with fail
  refine (CI.out _).mono ?_
  rintro e w' ⟨rfl, rfl⟩
  go_wp2_with fail
  clear CI
  go_loopw [16] (fun kk wr => ∃ k : Nat, k ≤ p.length ∧ kk = .int .i64 k ∧ w = wr ∧ Hid (partsErr slots p = psErr slots (p.drop k))) (fun kk _ => p.length - (intOf kk).toNat)
  case atStart => exact ⟨0, by omega, rfl, rfl, HE2⟩
  case round =>
    obtain ⟨k, hk, rfl, rfl, HO⟩ := hrel
    by_cases hlt : k < p.length
    · rcases HH.out with hp | ⟨g, o, rfl, _, hgl, hcells⟩
      · subst hp; simp at hlt
      obtain ⟨u, c0, hu⟩ := hcells k hlt
      have hll := hs p[k] (List.getElem_mem hlt)
      have HD : Hid (partsErr slots p = if slots < p[k].length then 12 else if paErr p[k] none = 0 then psErr slots (p.drop (k + 1)) else paErr p[k] none) := HO.out.trans (by rw [drop_at p hlt, psErr])
      generalize p[k] = l at *
      obtain ⟨A', c', rfl, hcap', hr⟩ := hu
      have HCE := Lib.hid hcells
      have i1 : (0 : Int) ≤ (k : Int) := by omega
      have i2 : (k : Int) < (p.length : Int) := by omega
      clear hcells HO
      by_cases hf : slots < (l.length : Int)
      · have HF := Lib.hid (HD.out.trans (if_pos hf))
        go_wp2_with fail
        go_ret
        exact ⟨ret_int HF.out.symm, rfl⟩
      have HD1 := Lib.hid (HD.out.trans (if_neg hf))
      clear HD
      have CR := Lib.hid (fun (W : World) (h : ReadsF base encS (.slice A' l.length c') l W) => rising_any hll h)
      have HR := Lib.hid (show ReadsF base encS (.slice A' l.length c') l w from ⟨A', c', rfl, hcap', hr⟩)
      clear hr
      generalize paErr l none = E at *
      by_cases h0 : E = 0
      · have HF := Lib.hid (HD1.out.trans (if_pos h0))
        subst h0
        go_wp2_with fail
        refine (CR.out _ HR.out).mono ?_
        rintro e w' ⟨rfl, rfl⟩
        go_wp2_with fail
        go_roundw
        case rel => exact ⟨k + 1, by omega, by go_num, by trivial, HF⟩
        case measure => simp [intOf]; omega
      · have HF := Lib.hid (HD1.out.trans (if_neg h0))
        go_wp2_with fail
        refine (CR.out _ HR.out).mono ?_
        rintro e w' ⟨rfl, rfl⟩
        go_wp2_with fail
        go_ret
        exact ⟨ret_int HF.out.symm, rfl⟩
    · have HALL : Hid (partsErr slots p = 0) := HO.out.trans (by rw [List.drop_eq_nil_of_le (by omega)]; rfl)
      go_wp2_with fail
      go_ret
      exact ⟨ret_int HALL.out.symm, rfl⟩
def lastL (l : List ByteArray) : Nat → ByteArray
  | 0 => ⟨#[]⟩
  | k + 1 => nth l k
theorem lastL_succ {l : List ByteArray} {k : Nat} (h : k < l.length) : lastL l (k + 1) = l[k] := nth_at h
theorem last_prev {l : List ByteArray} {i : Nat} (hi : i ≤ l.length) {x : ByteArray} (h : keyB x = true) : (prevL l i).any (leS x) = leS x (lastL l i) := by
  cases i with
  | zero => exact (leS_nil h).symm
  | succ k => rw [prevL_succ (by omega), lastL_succ (by omega)]; rfl

end Go.Proofs.YtmjonmoagpkdiabGreatDoor
