/-
  The walks of the reference's keys and faults.
-/
import Derived.Test.YtjmjmijjdgolfaaSeR
import Derived.Test.YtjmjmijjdgolfaaShelf
namespace Go.Proofs.Ytjmjmijjdgolfaa
open Go.RowKit

def memB (some : List UInt8) (x : UInt8) : Bool := !decide (Lib.indexByte some x < 0)
def onlyL (some l : List UInt8) : Bool := l.all (memB some)
def onlyB (s some : ByteArray) : Bool := onlyL some.data.toList s.data.toList
theorem onlyB_all (s some : ByteArray) : onlyB s some = true ↔ ∀ i (h : i < s.size), memB some.data.toList (s[i]'h) = true := by
  unfold onlyB onlyL
  rw [List.all_eq_true]
  constructor
  · intro h i hi
    exact h _ (by obtain ⟨d⟩ := s; show d[i]'hi ∈ d.toList; simp)
  · intro h x hx
    obtain ⟨j, hj, rfl⟩ := List.getElem_of_mem hx
    exact h j (by simpa using hj)

theorem u8_back (x : UInt8) : ((x.toNat : Int)).toNat.toUInt8 = x := by simp

set_option maxHeartbeats 1000000 in
theorem only_any (s some : ByteArray) (w : World) (hs : s.size ≤ 1000000) : Calls Try.prog 89 #[.string s, .string some] w fun e w' => e = .returned (.bool (onlyB s some)) ∧ w = w' := by
  have CI := Lib.hid (fun (x : UInt8) (W : World) => Try.strings_IndexByte some (x.toNat : Int) W)
  simp only [u8_back] at CI
  have HA := Lib.hid (onlyB_all s some)
  go_enter Try.func89, Try.ntmps89
  go_wp2_with fail
  go_loopw [8] (fun kk wr => ∃ k : Nat, k ≤ s.size ∧ kk = .int .i64 k ∧ w = wr ∧ Hid (∀ j (h : j < s.size), j < k → memB some.data.toList (s[j]'h) = true)) (fun kk _ => s.size - (intOf kk).toNat)
  case atStart => exact ⟨0, by omega, rfl, rfl, fun j _ h => by omega⟩
  case round =>
    obtain ⟨k, hk, rfl, rfl, HO⟩ := hrel
    by_cases hlt : k < s.size
    · obtain ⟨x, hx⟩ : ∃ x, s[k]'hlt = x := ⟨_, rfl⟩
      obtain ⟨xi, hxi⟩ : ∃ xi : Int, ((s[k]'hlt).toNat : Int) = xi := ⟨_, rfl⟩
      have HC : Hid (∀ W : World, Calls Try.prog 104 #[.string some, .int .u8 xi] W fun e w' => e = .returned (.int .i64 (Lib.indexByte some.data.toList x)) ∧ w' = W) := fun W => by rw [← hxi, hx]; exact CI.out x W
      have HX := Lib.hid hx
      have HXI := Lib.hid hxi
      clear hx
      cases hm : memB some.data.toList x
      · have hneg : Lib.indexByte some.data.toList x < 0 := by simpa [memB] using hm
        have HBAD : Hid (onlyB s some = false) := by
          refine Bool.eq_false_iff.mpr fun h => ?_
          have := HA.out.mp h k hlt
          rw [HX.out, hm] at this
          cases this
        generalize Lib.indexByte some.data.toList x = q at *
        go_wp2_with fail
        refine (HC.out _).mono ?_
        rintro e w' ⟨rfl, rfl⟩
        go_wp2_with fail
        go_ret
        exact ⟨ret_bool HBAD.out.symm, rfl⟩
      · have hpos : ¬ Lib.indexByte some.data.toList x < 0 := by simpa [memB] using hm
        have HM := Lib.hid hm
        clear hm
        generalize Lib.indexByte some.data.toList x = q at *
        go_wp2_with fail
        refine (HC.out _).mono ?_
        rintro e w' ⟨rfl, rfl⟩
        go_wp2_with fail
        go_roundw
        case rel => exact ⟨k + 1, by omega, by go_num, by trivial, fun j h hj => by
          by_cases e : j = k
          · subst e; rw [HX.out]; exact HM.out
          · exact HO.out j h (by omega)⟩
        case measure => simp [intOf]; omega
    · have HALL : Hid (onlyB s some = true) := HA.out.mpr fun i hi => HO.out i hi (by omega)
      go_wp2_with fail
      go_ret
      exact ⟨ret_bool HALL.out.symm, rfl⟩

def smallsL : List UInt8 := [97, 98, 99, 100, 101, 102, 103, 104, 105, 106, 107, 108, 109, 110, 111, 112, 113, 114, 115, 116, 117, 118, 119, 120, 121, 122]
def wordsL : List UInt8 := smallsL ++ [48, 49, 50, 51, 52, 53, 54, 55, 56, 57, 45, 95]
theorem smalls_all : ∀ n, n < 256 → memB smallsL (UInt8.ofNat n) = smallB ((UInt8.ofNat n).toNat : Int) := by decide +kernel
theorem words_all : ∀ n, n < 256 → memB wordsL (UInt8.ofNat n) = keyByte ((UInt8.ofNat n).toNat : Int) := by decide +kernel
theorem smalls_mem (x : UInt8) : memB smallsL x = smallB (x.toNat : Int) := by
  have := smalls_all x.toNat x.toNat_lt
  simpa using this
theorem words_mem (x : UInt8) : memB wordsL x = keyByte (x.toNat : Int) := by
  have := words_all x.toNat x.toNat_lt
  simpa using this
theorem key_ref (s : ByteArray) : keyB s = (inR (s.size : Int) 1 40 && onlyB (s.extract 0 1) ⟨smallsL.toArray⟩ && onlyB s ⟨wordsL.toArray⟩) := by
  by_cases h0 : s.size = 0
  · rw [keyB_empty s h0]
    simp [inR, h0]
  have hp : 0 < s.size := by omega
  rw [keyB_some s hp]
  have e1 : onlyB s ⟨wordsL.toArray⟩ = s.data.toList.all fun x => keyByte x.toNat := by
    unfold onlyB onlyL
    refine List.all_congr rfl fun x => ?_
    exact words_mem x
  have e2 : onlyB (s.extract 0 1) ⟨smallsL.toArray⟩ = smallB ((s[0]'hp).toNat : Int) := by
    unfold onlyB onlyL
    obtain ⟨⟨l⟩⟩ := s
    cases l with
    | nil => simp [ByteArray.size] at hp
    | cons a l =>
      have : (ByteArray.extract ⟨⟨a :: l⟩⟩ 0 1).data.toList = [a] := by simp
      rw [this]
      simp only [List.all_cons, List.all_nil, Bool.and_true]
      exact smalls_mem a
  have e3 : inR (s.size : Int) 1 40 = decide (s.size ≤ 40) := by
    unfold inR
    rw [Bool.eq_iff_iff]
    simp
    omega
  rw [e1, e2, e3]

set_option maxHeartbeats 1000000 in
theorem refKey_any (s : ByteArray) (w : World) : Calls Try.prog 58 #[.string s] w fun e w' => e = .returned (.bool (keyB s)) ∧ w = w' := by
  have HK := Lib.hid (key_ref s)
  cases h1 : inR (s.size : Int) 1 40
  · have HF : Hid (keyB s = false) := HK.out.trans (by rw [h1]; rfl)
    have H1 := Lib.hid h1
    clear h1
    go_enter Try.func58, Try.ntmps58
    go_wp2_with fail
    refine (refinR _ _ _ _).mono ?_
    rw [H1.out]
    rintro e w' ⟨rfl, rfl⟩
    go_wp2_with fail
    go_ret
    exact ⟨ret_bool HF.out.symm, rfl⟩
  have hsz : 1 ≤ s.size ∧ s.size ≤ 40 := by simp [inR] at h1; omega
  obtain ⟨hsz, hs40⟩ := hsz
  have hs : s.size ≤ 1000000 := by omega
  have H1 := Lib.hid h1
  clear h1
  cases h2 : onlyB (s.extract 0 1) ⟨smallsL.toArray⟩
  · have HF : Hid (keyB s = false) := HK.out.trans (by rw [H1.out, h2]; rfl)
    have H2 := Lib.hid h2
    clear h2
    have CO := Lib.hid (fun W => only_any (s.extract 0 1) ⟨smallsL.toArray⟩ W (by simp; omega))
    go_enter Try.func58, Try.ntmps58
    go_wp2_with fail
    refine (refinR _ _ _ _).mono ?_
    rw [H1.out]
    rintro e w' ⟨rfl, rfl⟩
    go_wp2_with fail
    refine (CO.out _).mono ?_
    rw [H2.out]
    rintro e w' ⟨rfl, rfl⟩
    go_wp2_with fail
    go_ret
    exact ⟨ret_bool HF.out.symm, rfl⟩
  have HF : Hid (keyB s = onlyB s ⟨wordsL.toArray⟩) := HK.out.trans (by rw [H1.out, h2]; rfl)
  have H2 := Lib.hid h2
  clear h2
  have CO := Lib.hid (fun W => only_any (s.extract 0 1) ⟨smallsL.toArray⟩ W (by simp; omega))
  have CP := Lib.hid (fun W => only_any s ⟨wordsL.toArray⟩ W hs)
  go_enter Try.func58, Try.ntmps58
  go_wp2_with fail
  refine (refinR _ _ _ _).mono ?_
  rw [H1.out]
  rintro e w' ⟨rfl, rfl⟩
  go_wp2_with fail
  refine (CO.out _).mono ?_
  rw [H2.out]
  rintro e w' ⟨rfl, rfl⟩
  go_wp2_with fail
  refine (CP.out _).mono ?_
  rintro e w' ⟨rfl, rfl⟩
  go_wp2_with fail
  go_ret
  exact ⟨ret_bool HF.out.symm, rfl⟩
end Go.Proofs.Ytjmjmijjdgolfaa
