/-
  The walks of equality of equal slices, and of the first error of some.
-/
import Derived.Test.YtiehkcbjfamnkaaBey
namespace Go.Proofs.Ytiehkcbjfamnkaa
open Go.RowKit

def errsL : List Int → Int
  | [] => 0
  | e :: l => if e = 0 then errsL l else e
set_option maxHeartbeats 1000000 in
theorem errs_any (l : List Int) (hl : l.length ≤ 1000) (g c : Nat) (w : World) (h : LineAt w g (l.map (Value.int .i64))) :
    Calls Try.prog 17 #[.slice (some ⟨g, 0, none⟩) l.length c] w fun e w' => e = .returned (.int .i64 (errsL l)) ∧ w = w' := by
  have HL := Lib.hid h
  clear h
  go_enter Try.func17, Try.ntmps17
  go_wp2_with fail
  go_loopw [7] (fun kk wr => ∃ k : Nat, k ≤ l.length ∧ kk = .int .i64 k ∧ w = wr ∧ Hid (errsL l = errsL (l.drop k))) (fun kk _ => l.length - (intOf kk).toNat)
  case atStart => exact ⟨0, by omega, rfl, rfl, rfl⟩
  case round =>
    obtain ⟨k, hk, rfl, rfl, HO⟩ := hrel
    by_cases hlt : k < l.length
    · obtain ⟨x, hx⟩ : ∃ x, l[k] = x := ⟨_, rfl⟩
      have hc := HL.out.2 k (.int .i64 x) (by simp [hlt, hx])
      have hD : errsL l = if x = 0 then errsL (l.drop (k + 1)) else x := HO.out.trans (by rw [drop_at l hlt, hx]; rfl)
      have HD := Lib.hid hD
      clear hD hx HO
      cases h0 : (x == 0)
      · have hne : ¬ x = 0 := by simpa using h0
        have HF : Hid (errsL l = x) := HD.out.trans (if_neg hne)
        have h1 : (x != 0) = true := by simpa using hne
        go_wp2_with fail
        go_ret
        exact ⟨ret_int HF.out.symm, rfl⟩
      · obtain rfl : x = 0 := by simpa using h0
        have HF : Hid (errsL l = errsL (l.drop (k + 1))) := HD.out.trans (if_pos rfl)
        go_wp2_with fail
        go_roundw
        case rel => exact ⟨k + 1, by omega, by go_num, by trivial, HF⟩
        case measure => simp [intOf]; omega
    · have HF : Hid (errsL l = 0) := HO.out.trans (by rw [List.drop_eq_nil_of_le (by omega)]; rfl)
      go_wp2_with fail
      go_ret
      exact ⟨ret_int HF.out.symm, rfl⟩

/-- A slice that reads as a row. -/
def Reads {α : Type} (enc : α → List Value) (v : Value) (l : List α) (w : World) : Prop :=
  ∃ A c, v = .slice A l.length c ∧ (l = [] ∨ ∃ g : Nat, A = some ⟨g, 0, none⟩ ∧ LineAt w g (l.flatMap enc))
theorem Reads.below {α : Type} {enc : α → List Value} {v : Value} {l : List α} {w w' : World} (h : Reads enc v l w) (hb : Below w.heap.size w w') : Reads enc v l w' := by
  obtain ⟨A, c, e, h⟩ := h
  refine ⟨A, c, e, h.imp_right ?_⟩
  rintro ⟨g, e, h⟩
  exact ⟨g, e, h.below hb⟩
theorem reads_own {α : Type} {enc : α → List Value} {v : Value} {l : List α} {w : World} {base : Nat} {T : TypeId} {size : Nat} (h : w.ownsRow base T size v l.length (l.flatMap enc)) : Reads enc v l w := by
  obtain ⟨A, c, rfl, _⟩ := own_form h
  refine ⟨A, c, rfl, ?_⟩
  by_cases h0 : l.length = 0
  · exact .inl (List.length_eq_zero_iff.mp h0)
  · obtain ⟨g', _, hv, _, hlt, _, _, hrd⟩ := own_read h (by omega)
    simp only [Value.slice.injEq, true_and] at hv
    exact .inr ⟨g', hv.1, hlt, hrd⟩

set_option maxHeartbeats 2000000 in
theorem equalPair_any (l : List (ByteArray × ByteArray)) (hl : l.length ≤ 2000000) (v1 v2 : Value) (w : World) (h1 : Reads pairOf v1 l w) (h2 : Reads pairOf v2 l w) :
    Calls Try.prog 44 #[v1, v2] w fun e w' => e = .returned (.bool true) ∧ Below w.heap.size w w' := by
  obtain ⟨A1, c1, rfl, h1⟩ := h1
  obtain ⟨A2, c2, rfl, h2⟩ := h2
  go_enter Try.func44, Try.ntmps44
  go_wp2_with fail
  go_loopw [13] (fun kk wr => ∃ k : Nat, k ≤ l.length ∧ kk = .int .i64 k ∧ Hid (Below w.heap.size w wr)) (fun kk _ => l.length - (intOf kk).toNat)
  case atStart => exact ⟨0, by omega, rfl, Below.refl _ _⟩
  case round =>
    obtain ⟨k, hk, rfl, HB⟩ := hrel
    by_cases hlt : k < l.length
    · obtain ⟨p, hp⟩ : ∃ p, l[k] = p := ⟨_, rfl⟩
      rcases h1 with rfl | ⟨g1, rfl, r1⟩
      · simp at hlt
      rcases h2 with rfl | ⟨g2, rfl, r2⟩
      · simp at hlt
      have e := fun j (hj : j < 2) => flatK_at pairOf 2 (fun _ => rfl) l k hlt j hj
      rw [hp] at e
      have a0 := (r1.below HB.out).2 _ _ (e 0 (by omega))
      have a1 := (r1.below HB.out).2 _ _ (e 1 (by omega))
      have b0 := (r2.below HB.out).2 _ _ (e 0 (by omega))
      have b1 := (r2.below HB.out).2 _ _ (e 1 (by omega))
      have R1 := Lib.hid r1
      have R2 := Lib.hid r2
      clear e hp r1 r2
      obtain ⟨x, y⟩ := p
      simp only [Nat.add_zero] at a0 b0
      dsimp only at a0 a1 b0 b1
      have i1 : (0 : Int) ≤ (k : Int) := by omega
      have i2 : (k : Int) < (l.length : Int) := by omega
      go_wp2_with fail
      go_quiet (fail)
      go_wp2_with fail
      go_roundw
      case rel => exact ⟨k + 1, by omega, by go_num, HB.out.drawN _⟩
      case measure => simp [intOf]; omega
    · go_wp2_with fail
      go_ret
      exact ⟨rfl, HB.out⟩
set_option maxHeartbeats 2000000 in
theorem equalStr_any (l : List ByteArray) (hl : l.length ≤ 2000000) (v1 v2 : Value) (w : World) (h1 : Reads encS v1 l w) (h2 : Reads encS v2 l w) :
    Calls Try.prog 45 #[v1, v2] w fun e w' => e = .returned (.bool true) ∧ Below w.heap.size w w' := by
  obtain ⟨A1, c1, rfl, h1⟩ := h1
  obtain ⟨A2, c2, rfl, h2⟩ := h2
  go_enter Try.func45, Try.ntmps45
  go_wp2_with fail
  go_loopw [13] (fun kk wr => ∃ k : Nat, k ≤ l.length ∧ kk = .int .i64 k ∧ Hid (Below w.heap.size w wr)) (fun kk _ => l.length - (intOf kk).toNat)
  case atStart => exact ⟨0, by omega, rfl, Below.refl _ _⟩
  case round =>
    obtain ⟨k, hk, rfl, HB⟩ := hrel
    by_cases hlt : k < l.length
    · rcases h1 with rfl | ⟨g1, rfl, r1⟩
      · simp at hlt
      rcases h2 with rfl | ⟨g2, rfl, r2⟩
      · simp at hlt
      have a0 := row_str (r1.below HB.out) hlt
      have b0 := row_str (r2.below HB.out) hlt
      generalize l.getD k dS = s at *
      have R1 := Lib.hid r1
      have R2 := Lib.hid r2
      clear r1 r2
      have i1 : (0 : Int) ≤ (k : Int) := by omega
      have i2 : (k : Int) < (l.length : Int) := by omega
      go_wp2_with fail
      go_quiet (fail)
      go_wp2_with fail
      go_roundw
      case rel => exact ⟨k + 1, by omega, by go_num, HB.out.drawN _⟩
      case measure => simp [intOf]; omega
    · go_wp2_with fail
      go_ret
      exact ⟨rfl, HB.out⟩
end Go.Proofs.Ytiehkcbjfamnkaa
