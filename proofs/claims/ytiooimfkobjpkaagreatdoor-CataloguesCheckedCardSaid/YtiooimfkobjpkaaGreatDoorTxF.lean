/-
  The reference's numerals and words (rfref2).
-/
import Derived.Test.YtiooimfkobjpkaaGreatDoorTxE
namespace Go.Proofs.YtiooimfkobjpkaaGreatDoor
open Go.RowKit
set_option linter.unusedSimpArgs false
set_option linter.unusedVariables false

def digitsS : ByteArray := ⟨#[48, 49, 50, 51, 52, 53, 54, 55, 56, 57]⟩
theorem digits_all : ∀ n, n < 256 → memB digitsS.data.toList (UInt8.ofNat n) = digB (UInt8.ofNat n) := by decide +kernel
theorem digits_mem (x : UInt8) : memB digitsS.data.toList x = digB x := by
  have := digits_all x.toNat x.toNat_lt
  simpa using this
theorem only_digits (d : ByteArray) : onlyB d digitsS = allDig (bt d) := by
  unfold onlyB onlyL allDig
  congr 1
  funext x
  exact digits_mem x
theorem sgn_in (s : ByteArray) (h : allDig (digsOf (bt s)) = true) (hl : (digsOf (bt s)).length ≤ 15) : -9223372036854775808 ≤ sgn (bt s) ∧ sgn (bt s) ≤ 9223372036854775807 := by
  have h1 := val_lt h (by omega)
  have h2 := pow18 (k := (digsOf (bt s)).length) (by omega)
  unfold sgn
  split <;> omega
/-- What a numeral's test comes to where all is digits. -/
theorem num_itoa {most : Nat} {s : ByteArray} (h1 : (digB' s).size ≠ 0) (h2 : (digB' s).size ≤ most) (h4 : allDig (bt (digB' s)) = true) : numB most s = ((itB (sgn (bt s))).toList == s.toList) ∧ (numB most s = true → numI most s = sgn (bt s)) := by
  have hi := @itoa_iff (bt s) (by rw [← digs_size]; exact h1) (by rw [← digs_bt]; exact h4)
  have hb : ((itB (sgn (bt s))).toList == s.toList) = true ↔ Lib.itoa (sgn (bt s)) = bt s := by
    rw [beq_iff_eq, Lib.toList_data, Lib.toList_data]
    unfold itB
    simp
  by_cases h3 : (bt (digB' s)).head? = some 48 ∧ s ≠ ⟨#[48]⟩
  · have hn := num_none (most := most) (s := s) (.inr (.inr (.inl h3)))
    refine ⟨?_, fun h => by rw [hn.1] at h; cases h⟩
    rw [hn.1]
    symm
    rw [Bool.eq_false_iff]
    intro h
    have := hi.mp (hb.mp h)
    rw [← digs_bt] at this
    exact this ⟨h3.1, fun e => h3.2 (bt_inj e)⟩
  · have hn := num_some h1 h2 h3 h4
    refine ⟨?_, fun _ => hn.2⟩
    rw [hn.1]
    symm
    refine hb.mpr (hi.mpr ?_)
    rw [← digs_bt]
    rintro ⟨a, b⟩
    exact h3 ⟨a, fun e => b (by rw [e])⟩

end Go.Proofs.YtiooimfkobjpkaaGreatDoor
