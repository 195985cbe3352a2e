/-
  The makers of texts of points; equality of points.
-/
import Derived.Test.YtiooimfkobjpkaaGreatDoorTpL
import Derived.Test.YtiooimfkobjpkaaGreatDoorTpQ
import Derived.Test.YtiooimfkobjpkaaGreatDoorTpT
import Derived.IntWalk
import Derived.Laws.Cover4
namespace Go.Proofs.YtiooimfkobjpkaaGreatDoor
open Go.RowKit
set_option linter.unusedSimpArgs false
set_option linter.unusedVariables false

def TextOf (sb b n : Nat) (w : World) (e : Ending) (w' : World) : Prop := ∃ r : ByteArray, e = .returned (.string r) ∧ r.size ≤ n ∧ Took sb b w w'
set_option maxHeartbeats 4000000 in
theorem changedW_any (sb b : Nat) (t wt : ByteArray) (ht : t.size ≤ 900000) (hw0 : 0 < wt.size) (hw1 : wt.size ≤ 100) (w : World) (hb : b ≤ 900000) (hs : IsStream w sb b) :
    Calls Tryz.prog 35 #[.pointer (some ⟨sb, 0, none⟩), .string t, .string wt] w (TextOf sb (b + 3) (t.size + 100) w) := by
  have HS := Lib.hid hs
  have hwe : wt.toList.isEmpty = false := by
    rw [Lib.toList_data]
    cases he : wt.data.toList with
    | nil => have h : wt.data.toList.length = 0 := by rw [he]; rfl
             exact absurd h (by show ¬ wt.size = 0; omega)
    | cons a r => rfl
  cases h0 : t.toList.isEmpty
  rotate_left
  · go_enter Tryz.func35, Tryz.ntmps35
    go_wp2_with fail
    go_ret
    exact ⟨_, rfl, by omega, (Took.refl HS.out).more (by omega)⟩
  have hpos : 0 < t.size := by
    rcases Nat.eq_zero_or_pos t.size with h | h
    · rw [Lib.toList_data] at h0
      have : t.data.toList = [] := List.length_eq_zero_iff.mp h
      rw [this] at h0; cases h0
    · exact h
  go_enter Tryz.func35, Tryz.ntmps35
  go_wp2_with fail
  refine (next_any sb b _ _ (by omega) (by omega) (by omega) HS.out).mono ?_
  rintro e w1 ⟨i, hi0, hi1, rfl, t1⟩
  obtain ⟨i, rfl⟩ := Int.eq_ofNat_of_zero_le hi0
  have T1 := Lib.hid t1
  clear t1
  go_wp2_with fail
  refine (next_any sb (b + 1) _ _ (by omega) (by omega) (by omega) T1.out.1).mono ?_
  rintro e w2 ⟨j, hj0, hj1, rfl, t2⟩
  have T2 := Lib.hid (T1.out.trans t2)
  clear t2 T1
  obtain ⟨j, rfl⟩ := Int.eq_ofNat_of_zero_le hj0
  have hj8 : j < wt.size := by omega
  go_wp2_with fail
  refine (next_any sb (b + 1 + 1) _ _ (by omega) (by omega) (by omega) T2.out.1).mono ?_
  rintro e w3 ⟨m, hm0, hm1, rfl, t3⟩
  have T3 := Lib.hid (T2.out.trans t3)
  clear t3 T2
  have i1 : IntKind.i64.wrap ((i : Int) + 1) = (i : Int) + 1 := IntWalk.i64_in _ (by omega)
  have i2 : ((i : Int) + 1).toNat = i + 1 := by omega
  have i3 : (0 : Int) ≤ (i : Int) + 1 := by omega
  have i4 : i ≤ t.size := by omega
  have i5 : i + 1 ≤ t.size := by omega
  have i6 : (i : Int) + 1 ≤ (t.size : Int) := by omega
  generalize hch : wt[j]'hj8 = ch at *
  clear hch
  have hen := encode_size_le (IntKind.i32.wrap ↑ch.toNat)
  have x1 : (t.extract 0 i).size = i := by rw [ByteArray.size_extract]; omega
  have x2 : (t.extract i t.size).size = t.size - i := by rw [ByteArray.size_extract]; omega
  have x3 : (t.extract (i + 1) t.size).size = t.size - (i + 1) := by rw [ByteArray.size_extract]; omega
  have k1 : ¬ 9223372036854775807 < (t.extract 0 i).size + (Utf8.encode (IntKind.i32.wrap ↑ch.toNat)).size := by omega
  have k2 : ¬ 9223372036854775807 < i + (Utf8.encode (IntKind.i32.wrap ↑ch.toNat)).size := by omega
  have k3 : ¬ 9223372036854775807 < min i t.size + (Utf8.encode (IntKind.i32.wrap ↑ch.toNat)).size := by omega
  have ka0 : ¬ 9223372036854775807 < (t.extract 0 i).size + (Utf8.encode (IntKind.i32.wrap ↑ch.toNat)).size + (t.extract (i + 1) t.size).size := by omega
  have ka1 : ¬ 9223372036854775807 < (t.extract 0 i).size + (Utf8.encode (IntKind.i32.wrap ↑ch.toNat)).size + (t.size - (i + 1)) := by omega
  have ka2 : ¬ 9223372036854775807 < i + (Utf8.encode (IntKind.i32.wrap ↑ch.toNat)).size + (t.extract (i + 1) t.size).size := by omega
  have ka3 : ¬ 9223372036854775807 < i + (Utf8.encode (IntKind.i32.wrap ↑ch.toNat)).size + (t.size - (i + 1)) := by omega
  have ka4 : ¬ 9223372036854775807 < min i t.size + (Utf8.encode (IntKind.i32.wrap ↑ch.toNat)).size + (t.extract (i + 1) t.size).size := by omega
  have ka5 : ¬ 9223372036854775807 < min i t.size + (Utf8.encode (IntKind.i32.wrap ↑ch.toNat)).size + (t.size - (i + 1)) := by omega
  have kb0 : ¬ 9223372036854775807 < (t.extract 0 i).size + (Utf8.encode (IntKind.i32.wrap ↑ch.toNat)).size + (t.extract i t.size).size := by omega
  have kb1 : ¬ 9223372036854775807 < (t.extract 0 i).size + (Utf8.encode (IntKind.i32.wrap ↑ch.toNat)).size + (t.size - i) := by omega
  have kb2 : ¬ 9223372036854775807 < i + (Utf8.encode (IntKind.i32.wrap ↑ch.toNat)).size + (t.extract i t.size).size := by omega
  have kb3 : ¬ 9223372036854775807 < i + (Utf8.encode (IntKind.i32.wrap ↑ch.toNat)).size + (t.size - i) := by omega
  have kb4 : ¬ 9223372036854775807 < min i t.size + (Utf8.encode (IntKind.i32.wrap ↑ch.toNat)).size + (t.extract i t.size).size := by omega
  have kb5 : ¬ 9223372036854775807 < min i t.size + (Utf8.encode (IntKind.i32.wrap ↑ch.toNat)).size + (t.size - i) := by omega
  have kc0 : ¬ 9223372036854775807 < (t.extract 0 i).size + (t.extract (i + 1) t.size).size := by omega
  have kc1 : ¬ 9223372036854775807 < (t.extract 0 i).size + (t.size - (i + 1)) := by omega
  have kc2 : ¬ 9223372036854775807 < i + (t.extract (i + 1) t.size).size := by omega
  have kc3 : ¬ 9223372036854775807 < i + (t.size - (i + 1)) := by omega
  have kc4 : ¬ 9223372036854775807 < min i t.size + (t.extract (i + 1) t.size).size := by omega
  have kc5 : ¬ 9223372036854775807 < min i t.size + (t.size - (i + 1)) := by omega
  have X := Lib.hid (And.intro x1 (And.intro x2 (And.intro x3 hen)))
  clear x1 x2 x3 hen hi0 hi1 hj0 hj1 hj8
  have hmm : m = 0 ∨ m = 1 ∨ m = 2 := by omega
  clear hm0 hm1
  rcases hmm with rfl | rfl | rfl
  · go_wp2_with fail
    go_quiet (fail)
    go_wp2_with fail
    go_ret
    exact ⟨_, rfl, by obtain ⟨x1, x2, x3, hen⟩ := X.out; simp only [ByteArray.size_append]; omega, T3.out.drewN _⟩
  · go_wp2_with fail
    go_quiet (fail)
    go_wp2_with fail
    go_ret
    exact ⟨_, rfl, by obtain ⟨x1, x2, x3, hen⟩ := X.out; simp only [ByteArray.size_append]; omega, T3.out.drewN _⟩
  · go_wp2_with fail
    go_quiet (fail)
    go_wp2_with fail
    go_ret
    exact ⟨_, rfl, by obtain ⟨x1, x2, x3, hen⟩ := X.out; simp only [ByteArray.size_append]; omega, T3.out.drewN _⟩

theorem Gl.kept {sb : Nat} {w w' : World} (h : Gl w) (hb : Kept sb w w') (hl : gLow ≤ sb) (hw : gLow ≤ w.heap.size) : Gl w' := by
  obtain ⟨⟨m, hm⟩, ht⟩ := h
  unfold gLow at hl hw
  refine ⟨⟨m, (hb.cell (p := ⟨0, 0, none⟩) (by show (0 : Nat) < w.heap.size; omega) (by show (0 : Nat) ≠ sb; omega)).trans hm⟩, ?_⟩
  unfold Lib.TabIs World.var? at *
  rw [gPow] at ht ⊢
  simp only [Option.bind_some] at ht ⊢
  rw [hb.old 1 (by omega) (by omega)]
  exact ht


end Go.Proofs.YtiooimfkobjpkaaGreatDoor
