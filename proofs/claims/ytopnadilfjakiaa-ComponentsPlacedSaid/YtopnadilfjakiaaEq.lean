/-
  The walks of equality of equal slices, and of the first error of some.
-/
import Derived.Test.YtopnadilfjakiaaBey
namespace Go.Proofs.Ytopnadilfjakiaa
open Go.RowKit

def errsL : List Int → Int
  | [] => 0
  | e :: l => if e = 0 then errsL l else e
set_option maxHeartbeats 1000000 in
theorem errs_any (l : List Int) (hl : l.length ≤ 1000) (g c : Nat) (w : World) (h : LineAt w g (l.map (Value.int .i64))) :
    Calls Try.prog 14 #[.slice (some ⟨g, 0, none⟩) l.length c] w fun e w' => e = .returned (.int .i64 (errsL l)) ∧ w = w' := by
  have HL := Lib.hid h
  clear h
  go_enter Try.func14, Try.ntmps14
  go_wp2_with fail
  go_loopw [7] (fun kk wr => ∃ k : Nat, k ≤ l.length ∧ kk = .int .i64 k ∧ w = wr ∧ Hid (errsL l = errsL (l.drop k))) (fun kk _ => l.length - (intOf kk).toNat)
  case atStart => exact ⟨0, by omega, rfl, rfl, rfl⟩
  case round =>
    obtain ⟨k, hk, rfl, rfl, HO⟩ := hrel
    by_cases hlt : k < l.length
    · obtain ⟨x, hx⟩ : ∃ x, l[k] = x := ⟨_, rfl⟩
      have hc := HL.out.2 k (.int .i64 x) (by simp [hlt, hx])
      have hD : errsL l = if x = 0 then errsL (l.drop (k + 1)) else x := HO.out.trans (by rw [drop_at l hlt, hx]; rfl)
      have HD := Lib.hid hD
      clear hD hx HO
      cases h0 : (x == 0)
      · have hne : ¬ x = 0 := by simpa using h0
        have HF : Hid (errsL l = x) := HD.out.trans (if_neg hne)
        have h1 : (x != 0) = true := by simpa using hne
        go_wp2_with fail
        go_ret
        exact ⟨ret_int HF.out.symm, rfl⟩
      · obtain rfl : x = 0 := by simpa using h0
        have HF : Hid (errsL l = errsL (l.drop (k + 1))) := HD.out.trans (if_pos rfl)
        go_wp2_with fail
        go_roundw
        case rel => exact ⟨k + 1, by omega, by go_num, by trivial, HF⟩
        case measure => simp [intOf]; omega
    · have HF : Hid (errsL l = 0) := HO.out.trans (by rw [List.drop_eq_nil_of_le (by omega)]; rfl)
      go_wp2_with fail
      go_ret
      exact ⟨ret_int HF.out.symm, rfl⟩

/-- A slice that reads as a row. -/
def Reads {α : Type} (enc : α → List Value) (v : Value) (l : List α) (w : World) : Prop :=
  ∃ A c, v = .slice A l.length c ∧ (l = [] ∨ ∃ g : Nat, A = some ⟨g, 0, none⟩ ∧ LineAt w g (l.flatMap enc))
theorem Reads.below {α : Type} {enc : α → List Value} {v : Value} {l : List α} {w w' : World} (h : Reads enc v l w) (hb : Below w.heap.size w w') : Reads enc v l w' := by
  obtain ⟨A, c, e, h⟩ := h
  refine ⟨A, c, e, h.imp_right ?_⟩
  rintro ⟨g, e, h⟩
  exact ⟨g, e, h.below hb⟩
theorem reads_own {α : Type} {enc : α → List Value} {v : Value} {l : List α} {w : World} {base : Nat} {T : TypeId} {size : Nat} (h : w.ownsRow base T size v l.length (l.flatMap enc)) : Reads enc v l w := by
  obtain ⟨A, c, rfl, _⟩ := own_form h
  refine ⟨A, c, rfl, ?_⟩
  by_cases h0 : l.length = 0
  · exact .inl (List.length_eq_zero_iff.mp h0)
  · obtain ⟨g', _, hv, _, hlt, _, _, hrd⟩ := own_read h (by omega)
    simp only [Value.slice.injEq, true_and] at hv
    exact .inr ⟨g', hv.1, hlt, hrd⟩

end Go.Proofs.Ytopnadilfjakiaa
