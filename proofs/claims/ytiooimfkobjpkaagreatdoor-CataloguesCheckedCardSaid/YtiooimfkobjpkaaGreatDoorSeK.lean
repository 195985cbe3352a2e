/-
  The walks of the reference's keys and faults.
-/
import Derived.Test.YtiooimfkobjpkaaGreatDoorSeR
import Derived.Test.YtiooimfkobjpkaaGreatDoorShelf
namespace Go.Proofs.YtiooimfkobjpkaaGreatDoor
open Go.RowKit

def memB (some : List UInt8) (x : UInt8) : Bool := !decide (Lib.indexByte some x < 0)
def onlyL (some l : List UInt8) : Bool := l.all (memB some)
def onlyB (s some : ByteArray) : Bool := onlyL some.data.toList s.data.toList
theorem onlyB_all (s some : ByteArray) : onlyB s some = true ↔ ∀ i (h : i < s.size), memB some.data.toList (s[i]'h) = true := by
  unfold onlyB onlyL
  rw [List.all_eq_true]
  constructor
  · intro h i hi
    exact h _ (by obtain ⟨d⟩ := s; show d[i]'hi ∈ d.toList; simp)
  · intro h x hx
    obtain ⟨j, hj, rfl⟩ := List.getElem_of_mem hx
    exact h j (by simpa using hj)

theorem u8_back (x : UInt8) : ((x.toNat : Int)).toNat.toUInt8 = x := by simp

def smallsL : List UInt8 := [97, 98, 99, 100, 101, 102, 103, 104, 105, 106, 107, 108, 109, 110, 111, 112, 113, 114, 115, 116, 117, 118, 119, 120, 121, 122]
def wordsL : List UInt8 := smallsL ++ [48, 49, 50, 51, 52, 53, 54, 55, 56, 57, 45, 95]
theorem smalls_all : ∀ n, n < 256 → memB smallsL (UInt8.ofNat n) = smallB ((UInt8.ofNat n).toNat : Int) := by decide +kernel
theorem words_all : ∀ n, n < 256 → memB wordsL (UInt8.ofNat n) = keyByte ((UInt8.ofNat n).toNat : Int) := by decide +kernel
theorem smalls_mem (x : UInt8) : memB smallsL x = smallB (x.toNat : Int) := by
  have := smalls_all x.toNat x.toNat_lt
  simpa using this
theorem words_mem (x : UInt8) : memB wordsL x = keyByte (x.toNat : Int) := by
  have := words_all x.toNat x.toNat_lt
  simpa using this
theorem key_ref (s : ByteArray) : keyB s = (inR (s.size : Int) 1 40 && onlyB (s.extract 0 1) ⟨smallsL.toArray⟩ && onlyB s ⟨wordsL.toArray⟩) := by
  by_cases h0 : s.size = 0
  · rw [keyB_empty s h0]
    simp [inR, h0]
  have hp : 0 < s.size := by omega
  rw [keyB_some s hp]
  have e1 : onlyB s ⟨wordsL.toArray⟩ = s.data.toList.all fun x => keyByte x.toNat := by
    unfold onlyB onlyL
    refine List.all_congr rfl fun x => ?_
    exact words_mem x
  have e2 : onlyB (s.extract 0 1) ⟨smallsL.toArray⟩ = smallB ((s[0]'hp).toNat : Int) := by
    unfold onlyB onlyL
    obtain ⟨⟨l⟩⟩ := s
    cases l with
    | nil => simp [ByteArray.size] at hp
    | cons a l =>
      have : (ByteArray.extract ⟨⟨a :: l⟩⟩ 0 1).data.toList = [a] := by simp
      rw [this]
      simp only [List.all_cons, List.all_nil, Bool.and_true]
      exact smalls_mem a
  have e3 : inR (s.size : Int) 1 40 = decide (s.size ≤ 40) := by
    unfold inR
    rw [Bool.eq_iff_iff]
    simp
    omega
  rw [e1, e2, e3]

end Go.Proofs.YtiooimfkobjpkaaGreatDoor
