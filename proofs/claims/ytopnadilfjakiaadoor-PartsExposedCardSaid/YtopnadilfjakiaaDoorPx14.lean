/-
  The reference's keys.
-/
import Derived.Test.YtopnadilfjakiaaDoorPx3
import Derived.Test.YtopnadilfjakiaaDoorShelf
namespace Go.Proofs.YtopnadilfjakiaaDoor
open Go.RowKit

def smallsL : List UInt8 := [97, 98, 99, 100, 101, 102, 103, 104, 105, 106, 107, 108, 109, 110, 111, 112, 113, 114, 115, 116, 117, 118, 119, 120, 121, 122]
def wordsL : List UInt8 := smallsL ++ [48, 49, 50, 51, 52, 53, 54, 55, 56, 57, 45, 95]
theorem smalls_all : ∀ n, n < 256 → decide (0 ≤ Lib.indexByte smallsL (UInt8.ofNat n)) = smallB ((UInt8.ofNat n).toNat : Int) := by decide +kernel
theorem words_all : ∀ n, n < 256 → wordsL.contains (UInt8.ofNat n) = keyByte ((UInt8.ofNat n).toNat : Int) := by decide +kernel
theorem smalls_mem (x : UInt8) : decide (0 ≤ Lib.indexByte smallsL x) = smallB (x.toNat : Int) := by
  have := smalls_all x.toNat x.toNat_lt
  simpa using this
theorem words_mem (x : UInt8) : wordsL.contains x = keyByte (x.toNat : Int) := by
  have := words_all x.toNat x.toNat_lt
  simpa using this
theorem dropWhile_nil {p : UInt8 → Bool} : ∀ {l : List UInt8}, l.dropWhile p = [] ↔ l.all p = true
  | [] => by simp
  | x :: l => by
    rw [List.dropWhile_cons, List.all_cons]
    by_cases h : p x = true
    · rw [if_pos h, dropWhile_nil, h]; simp
    · rw [if_neg h]; simp [h]
theorem dropWhile_head {p : UInt8 → Bool} : ∀ {l : List UInt8} {x : UInt8} {r : List UInt8}, l.dropWhile p = x :: r → p x = false
  | [], _, _, h => by simp at h
  | y :: l, x, r, h => by
    rw [List.dropWhile_cons] at h
    by_cases hy : p y = true
    · rw [if_pos hy] at h; exact dropWhile_head h
    · rw [if_neg hy] at h
      simp at h
      rw [← h.1]
      simpa using hy
theorem trim_nil (l cs : List UInt8) : Lib.trimS l cs = [] ↔ l.all (cs.contains ·) = true := by
  unfold Lib.trimS Lib.trimLeftS Lib.trimRightS
  rw [dropWhile_nil, List.all_reverse]
  constructor
  · intro h
    cases hd : l.reverse.dropWhile (cs.contains ·) with
    | nil => have := dropWhile_nil.mp hd; rwa [List.all_reverse] at this
    | cons x r =>
      have h1 := dropWhile_head hd
      rw [hd, List.all_cons, h1] at h
      simp at h
  · intro h
    have : l.reverse.dropWhile (cs.contains ·) = [] := dropWhile_nil.mpr (by rw [List.all_reverse]; exact h)
    rw [this]; rfl
def fstB (s : ByteArray) : UInt8 := s.data.toList.headD 0
theorem key_ref (s : ByteArray) : keyB s = (inR (s.size : Int) 1 40 && decide (0 ≤ Lib.indexByte smallsL (fstB s)) && decide (Lib.trimS s.data.toList wordsL = [])) := by
  by_cases h0 : s.size = 0
  · rw [keyB_empty s h0]
    simp [inR, h0]
  have hp : 0 < s.size := by omega
  rw [keyB_some s hp]
  have e1 : decide (Lib.trimS s.data.toList wordsL = []) = s.data.toList.all fun x => keyByte x.toNat := by
    rw [Bool.eq_iff_iff, decide_eq_true_eq, trim_nil]
    have : (s.data.toList.all (wordsL.contains ·)) = s.data.toList.all fun x => keyByte x.toNat := List.all_congr rfl fun x => words_mem x
    rw [this]
  have e2 : decide (0 ≤ Lib.indexByte smallsL (fstB s)) = smallB ((s[0]'hp).toNat : Int) := by
    obtain ⟨⟨l⟩⟩ := s
    cases l with
    | nil => simp [ByteArray.size] at hp
    | cons a l => exact smalls_mem a
  have e3 : inR (s.size : Int) 1 40 = decide (s.size ≤ 40) := by
    unfold inR
    rw [Bool.eq_iff_iff]
    simp
    omega
  rw [e1, e2, e3]
theorem ext_one (s : ByteArray) (h : 0 < s.size) : s.extract 0 1 = ⟨#[fstB s]⟩ := by
  obtain ⟨⟨l⟩⟩ := s
  cases l with
  | nil => simp [ByteArray.size] at h
  | cons a l => exact ByteArray.ext (by simp [fstB])
theorem words_ascii : ∀ (j : Nat) b, (⟨wordsL.toArray⟩ : ByteArray).data.toList[j]? = some b → b.toNat < 128 := by
  intro j b h
  have hm : b ∈ wordsL := by have := List.mem_of_getElem? h; simpa using this
  have : ∀ x ∈ wordsL, x.toNat < 128 := by decide
  exact this b hm

set_option maxHeartbeats 1000000 in
theorem keyR_any (s : ByteArray) (w : World) (hs : s.size ≤ 9223372036854775807) : Calls Tryd.prog 44 #[.string s] w fun e w' => e = .returned (.bool (keyB s)) ∧ Below w.heap.size w w' := by
  have HK := Lib.hid (key_ref s)
  have CI := Lib.hid (fun W => in1_any (s.size : Int) 1 40 W)
  cases h1 : inR (s.size : Int) 1 40
  · have HF : Hid (keyB s = false) := HK.out.trans (by rw [h1]; rfl)
    rw [h1] at CI
    clear h1
    go_enter Tryd.func44, Tryd.ntmps44
    go_wp2_with fail
    refine (CI.out _).mono ?_
    rintro e w' ⟨rfl, rfl⟩
    go_wp2_with fail
    go_ret
    exact ⟨ret_bool HF.out.symm, Below.refl _ _⟩
  have hsz : 1 ≤ s.size ∧ s.size ≤ 40 := by simp [inR] at h1; omega
  obtain ⟨hsz, hs40⟩ := hsz
  have HE := Lib.hid (ext_one s (by omega))
  have CC : Hid (∀ W, Calls Tryd.prog 52 #[.string ⟨smallsL.toArray⟩, .string (s.extract 0 1)] W fun e w' => e = .returned (.bool (decide (0 ≤ Lib.indexByte smallsL (fstB s)))) ∧ w' = W) := fun W => by
    rw [HE.out]
    exact Tryd.strings_Contains_one ⟨smallsL.toArray⟩ (fstB s) W
  rw [h1] at CI
  cases h2 : decide (0 ≤ Lib.indexByte smallsL (fstB s))
  · have HF : Hid (keyB s = false) := HK.out.trans (by rw [h1, h2]; rfl)
    rw [h2] at CC
    clear h1 h2
    go_enter Tryd.func44, Tryd.ntmps44
    go_wp2_with fail
    refine (CI.out _).mono ?_
    rintro e w' ⟨rfl, rfl⟩
    go_wp2_with fail
    refine (CC.out _).mono ?_
    rintro e w' ⟨rfl, rfl⟩
    go_wp2_with fail
    go_ret
    exact ⟨ret_bool HF.out.symm, Below.refl _ _⟩
  have HF : Hid (keyB s = decide (Lib.trimS s.data.toList wordsL = [])) := HK.out.trans (by rw [h1, h2]; rfl)
  rw [h2] at CC
  clear h1 h2
  have CT : Hid (∀ W, Calls Tryd.prog 53 #[.string s, .string ⟨wordsL.toArray⟩] W fun e w' => e = .returned (.string ⟨(Lib.trimS s.data.toList wordsL).toArray⟩) ∧ Below W.heap.size W w') := fun W => Tryd.strings_Trim s ⟨wordsL.toArray⟩ W hs (by decide) words_ascii
  generalize Lib.trimS s.data.toList wordsL = tl at *
  by_cases ht : tl = []
  · subst ht
    have HF1 : Hid (keyB s = true) := HF.out.trans (by simp)
    go_enter Tryd.func44, Tryd.ntmps44
    go_wp2_with fail
    refine (CI.out _).mono ?_
    rintro e w' ⟨rfl, rfl⟩
    go_wp2_with fail
    refine (CC.out _).mono ?_
    rintro e w' ⟨rfl, rfl⟩
    go_wp2_with fail
    refine (CT.out _).mono ?_
    rintro e w4 ⟨rfl, b4⟩
    have HB := Lib.hid b4
    clear b4
    go_wp2_with fail
    go_ret
    exact ⟨ret_bool HF1.out.symm, HB.out⟩
  · have HF1 : Hid (keyB s = false) := HF.out.trans (by simp [ht])
    go_enter Tryd.func44, Tryd.ntmps44
    go_wp2_with fail
    refine (CI.out _).mono ?_
    rintro e w' ⟨rfl, rfl⟩
    go_wp2_with fail
    refine (CC.out _).mono ?_
    rintro e w' ⟨rfl, rfl⟩
    go_wp2_with fail
    refine (CT.out _).mono ?_
    rintro e w4 ⟨rfl, b4⟩
    have HB := Lib.hid b4
    clear b4
    go_wp2_with fail
    go_ret
    exact ⟨ret_bool (by rw [HF1.out]; simp [ht]), HB.out⟩
end Go.Proofs.YtopnadilfjakiaaDoor
