/-
  The walk of keys.
-/
import Derived.Test.YtbkbjljkfhahbaaPt
namespace Go.Proofs.Ytbkbjljkfhahbaa
open Go.RowKit

def smallB (b : Int) : Bool := decide (97 ≤ b) && decide (b ≤ 122)
def digitB (b : Int) : Bool := decide (48 ≤ b) && decide (b ≤ 57)
def keyByte (b : Int) : Bool := smallB b || digitB b || !(b != 45) || !(b != 95)
/-- A key. -/
def keyL : List UInt8 → Bool
  | [] => false
  | b :: l => decide (l.length + 1 ≤ 40) && smallB b.toNat && (b :: l).all fun x => keyByte x.toNat
def keyB (s : ByteArray) : Bool := keyL s.data.toList

theorem keyB_empty (s : ByteArray) (h : s.size = 0) : keyB s = false := by
  unfold keyB
  rw [show s.data.toList = [] by have : s.data.toList.length = 0 := by simpa using h
                                 exact List.length_eq_zero_iff.mp this]
  rfl
theorem keyB_some (s : ByteArray) (h : 0 < s.size) : keyB s = (decide (s.size ≤ 40) && smallB ((s[0]'h).toNat : Int) && s.data.toList.all fun x => keyByte x.toNat) := by
  have e : s.data.toList = s[0] :: s.data.toList.tail := by
    obtain ⟨⟨l⟩⟩ := s
    cases l with
    | nil => simp [ByteArray.size] at h
    | cons a l => rfl
  have hl : s.data.toList.length = s.size := by simp
  unfold keyB
  rw [e] at hl ⊢
  simp only [keyL]
  rw [show s.data.toList.tail.length + 1 = s.size by simpa using hl]
theorem keyB_all (s : ByteArray) : (s.data.toList.all fun x => keyByte x.toNat) = true ↔ ∀ i (h : i < s.size), keyByte ((s[i]'h).toNat : Int) = true := by
  rw [List.all_eq_true]
  constructor
  · intro h i hi
    exact h _ (by obtain ⟨d⟩ := s; show d[i]'hi ∈ d.toList; simp)
  · intro h x hx
    obtain ⟨j, hj, rfl⟩ := List.getElem_of_mem hx
    exact h j (by simpa using hj)

end Go.Proofs.Ytbkbjljkfhahbaa
