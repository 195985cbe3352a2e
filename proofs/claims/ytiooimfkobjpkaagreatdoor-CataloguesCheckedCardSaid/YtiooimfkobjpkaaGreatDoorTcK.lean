/-
  The reference's keys.
-/
import Derived.Test.YtiooimfkobjpkaaGreatDoorTcA1
import Derived.Test.YtiooimfkobjpkaaGreatDoorShelf
import Derived.Test.YtiooimfkobjpkaaGreatDoorShelfT
namespace Go.Proofs.YtiooimfkobjpkaaGreatDoor
open Go.RowKit

def smallsZ : List UInt8 := [97, 98, 99, 100, 101, 102, 103, 104, 105, 106, 107, 108, 109, 110, 111, 112, 113, 114, 115, 116, 117, 118, 119, 120, 121, 122]
def wordsZ : List UInt8 := smallsZ ++ [48, 49, 50, 51, 52, 53, 54, 55, 56, 57, 45, 95]
theorem smallsZ_all : ∀ n, n < 256 → decide (0 ≤ Lib.indexByte smallsZ (UInt8.ofNat n)) = smallB ((UInt8.ofNat n).toNat : Int) := by decide +kernel
theorem wordsZ_all : ∀ n, n < 256 → wordsZ.contains (UInt8.ofNat n) = keyByte ((UInt8.ofNat n).toNat : Int) := by decide +kernel
theorem smallsZ_mem (x : UInt8) : decide (0 ≤ Lib.indexByte smallsZ x) = smallB (x.toNat : Int) := by
  have := smallsZ_all x.toNat x.toNat_lt
  simpa using this
theorem wordsZ_mem (x : UInt8) : wordsZ.contains x = keyByte (x.toNat : Int) := by
  have := wordsZ_all x.toNat x.toNat_lt
  simpa using this
theorem dropWhileZ_nil {p : UInt8 → Bool} : ∀ {l : List UInt8}, l.dropWhile p = [] ↔ l.all p = true
  | [] => by simp
  | x :: l => by
    rw [List.dropWhile_cons, List.all_cons]
    by_cases h : p x = true
    · rw [if_pos h, dropWhileZ_nil, h]; simp
    · rw [if_neg h]; simp [h]
theorem dropWhileZ_head {p : UInt8 → Bool} : ∀ {l : List UInt8} {x : UInt8} {r : List UInt8}, l.dropWhile p = x :: r → p x = false
  | [], _, _, h => by simp at h
  | y :: l, x, r, h => by
    rw [List.dropWhile_cons] at h
    by_cases hy : p y = true
    · rw [if_pos hy] at h; exact dropWhileZ_head h
    · rw [if_neg hy] at h
      simp at h
      rw [← h.1]
      simpa using hy
theorem trimZ_nil (l cs : List UInt8) : Lib.trimS l cs = [] ↔ l.all (cs.contains ·) = true := by
  unfold Lib.trimS Lib.trimLeftS Lib.trimRightS
  rw [dropWhileZ_nil, List.all_reverse]
  constructor
  · intro h
    cases hd : l.reverse.dropWhile (cs.contains ·) with
    | nil => have := dropWhileZ_nil.mp hd; rwa [List.all_reverse] at this
    | cons x r =>
      have h1 := dropWhileZ_head hd
      rw [hd, List.all_cons, h1] at h
      simp at h
  · intro h
    have : l.reverse.dropWhile (cs.contains ·) = [] := dropWhileZ_nil.mpr (by rw [List.all_reverse]; exact h)
    rw [this]; rfl
def fstB (s : ByteArray) : UInt8 := s.data.toList.headD 0
theorem keyZ_ref (s : ByteArray) : keyB s = (inR (s.size : Int) 1 40 && decide (0 ≤ Lib.indexByte smallsZ (fstB s)) && decide (Lib.trimS s.data.toList wordsZ = [])) := by
  by_cases h0 : s.size = 0
  · rw [keyB_empty s h0]
    simp [inR, h0]
  have hp : 0 < s.size := by omega
  rw [keyB_some s hp]
  have e1 : decide (Lib.trimS s.data.toList wordsZ = []) = s.data.toList.all fun x => keyByte x.toNat := by
    rw [Bool.eq_iff_iff, decide_eq_true_eq, trimZ_nil]
    have : (s.data.toList.all (wordsZ.contains ·)) = s.data.toList.all fun x => keyByte x.toNat := List.all_congr rfl fun x => wordsZ_mem x
    rw [this]
  have e2 : decide (0 ≤ Lib.indexByte smallsZ (fstB s)) = smallB ((s[0]'hp).toNat : Int) := by
    obtain ⟨⟨l⟩⟩ := s
    cases l with
    | nil => simp [ByteArray.size] at hp
    | cons a l => exact smallsZ_mem a
  have e3 : inR (s.size : Int) 1 40 = decide (s.size ≤ 40) := by
    unfold inR
    rw [Bool.eq_iff_iff]
    simp
    omega
  rw [e1, e2, e3]
theorem ext_one (s : ByteArray) (h : 0 < s.size) : s.extract 0 1 = ⟨#[fstB s]⟩ := by
  obtain ⟨⟨l⟩⟩ := s
  cases l with
  | nil => simp [ByteArray.size] at h
  | cons a l => exact ByteArray.ext (by simp [fstB])
theorem words_ascii : ∀ (j : Nat) b, (⟨wordsZ.toArray⟩ : ByteArray).data.toList[j]? = some b → b.toNat < 128 := by
  intro j b h
  have hm : b ∈ wordsZ := by have := List.mem_of_getElem? h; simpa using this
  have : ∀ x ∈ wordsZ, x.toNat < 128 := by decide
  exact this b hm

set_option maxHeartbeats 1000000 in
theorem keyR_any (s : ByteArray) (w : World) (hs : s.size ≤ 9223372036854775807) : Calls Tryz.prog 21 #[.string s] w fun e w' => e = .returned (.bool (keyB s)) ∧ Below w.heap.size w w' := by
  have HK := Lib.hid (keyZ_ref s)
  have CI := Lib.hid (fun W => inZ_any (s.size : Int) 1 40 W)
  cases h1 : inR (s.size : Int) 1 40
  · have HF : Hid (keyB s = false) := HK.out.trans (by rw [h1]; rfl)
    rw [h1] at CI
    clear h1
    go_enter Tryz.func21, Tryz.ntmps21
    go_wp2_with fail
    refine (CI.out _).mono ?_
    rintro e w' ⟨rfl, rfl⟩
    go_wp2_with fail
    go_ret
    exact ⟨ret_bool HF.out.symm, Below.refl _ _⟩
  have hsz : 1 ≤ s.size ∧ s.size ≤ 40 := by simp [inR] at h1; omega
  obtain ⟨hsz, hs40⟩ := hsz
  have HE := Lib.hid (ext_one s (by omega))
  have CC : Hid (∀ W, Calls Tryz.prog 49 #[.string ⟨smallsZ.toArray⟩, .string (s.extract 0 1)] W fun e w' => e = .returned (.bool (decide (0 ≤ Lib.indexByte smallsZ (fstB s)))) ∧ w' = W) := fun W => by
    rw [HE.out]
    exact Tryz.strings_Contains_one ⟨smallsZ.toArray⟩ (fstB s) W
  rw [h1] at CI
  cases h2 : decide (0 ≤ Lib.indexByte smallsZ (fstB s))
  · have HF : Hid (keyB s = false) := HK.out.trans (by rw [h1, h2]; rfl)
    rw [h2] at CC
    clear h1 h2
    go_enter Tryz.func21, Tryz.ntmps21
    go_wp2_with fail
    refine (CI.out _).mono ?_
    rintro e w' ⟨rfl, rfl⟩
    go_wp2_with fail
    refine (CC.out _).mono ?_
    rintro e w' ⟨rfl, rfl⟩
    go_wp2_with fail
    go_ret
    exact ⟨ret_bool HF.out.symm, Below.refl _ _⟩
  have HF : Hid (keyB s = decide (Lib.trimS s.data.toList wordsZ = [])) := HK.out.trans (by rw [h1, h2]; rfl)
  rw [h2] at CC
  clear h1 h2
  have CT : Hid (∀ W, Calls Tryz.prog 50 #[.string s, .string ⟨wordsZ.toArray⟩] W fun e w' => e = .returned (.string ⟨(Lib.trimS s.data.toList wordsZ).toArray⟩) ∧ Below W.heap.size W w') := fun W => Tryz.strings_Trim s ⟨wordsZ.toArray⟩ W hs (by decide) words_ascii
  generalize Lib.trimS s.data.toList wordsZ = tl at *
  by_cases ht : tl = []
  · subst ht
    have HF1 : Hid (keyB s = true) := HF.out.trans (by simp)
    go_enter Tryz.func21, Tryz.ntmps21
    go_wp2_with fail
    refine (CI.out _).mono ?_
    rintro e w' ⟨rfl, rfl⟩
    go_wp2_with fail
    refine (CC.out _).mono ?_
    rintro e w' ⟨rfl, rfl⟩
    go_wp2_with fail
    refine (CT.out _).mono ?_
    rintro e w4 ⟨rfl, b4⟩
    have HB := Lib.hid b4
    clear b4
    go_wp2_with fail
    go_ret
    exact ⟨ret_bool HF1.out.symm, HB.out⟩
  · have HF1 : Hid (keyB s = false) := HF.out.trans (by simp [ht])
    go_enter Tryz.func21, Tryz.ntmps21
    go_wp2_with fail
    refine (CI.out _).mono ?_
    rintro e w' ⟨rfl, rfl⟩
    go_wp2_with fail
    refine (CC.out _).mono ?_
    rintro e w' ⟨rfl, rfl⟩
    go_wp2_with fail
    refine (CT.out _).mono ?_
    rintro e w4 ⟨rfl, b4⟩
    have HB := Lib.hid b4
    clear b4
    go_wp2_with fail
    go_ret
    exact ⟨ret_bool (by rw [HF1.out]; simp [ht]), HB.out⟩
end Go.Proofs.YtiooimfkobjpkaaGreatDoor
