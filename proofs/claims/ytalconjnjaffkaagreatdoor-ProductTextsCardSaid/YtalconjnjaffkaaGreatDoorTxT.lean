/-
  The makers of texts of products.
-/
import Derived.Test.YtalconjnjaffkaaGreatDoorTxQ
import Derived.IntWalk
import Derived.Laws.Cover4
namespace Go.Proofs.YtalconjnjaffkaaGreatDoor
open Go.RowKit
set_option linter.unusedSimpArgs false
set_option linter.unusedVariables false

def TextOf (sb b n : Nat) (w : World) (e : Ending) (w' : World) : Prop := ∃ r : ByteArray, e = .returned (.string r) ∧ r.size ≤ n ∧ Took sb b w w'
def withB : ByteArray := ⟨#[32, 10, 48, 45, 57, 99, 112, 49]⟩

set_option maxHeartbeats 4000000 in
theorem changed_any (sb b : Nat) (t : ByteArray) (ht : t.size ≤ 900000) (w : World) (hb : b ≤ 900000) (hs : IsStream w sb b) :
    Calls Tryz.prog 67 #[.pointer (some ⟨sb, 0, none⟩), .string t, .string ⟨#[32, 10, 48, 45, 57, 99, 112, 49]⟩] w (TextOf sb (b + 3) (t.size + 8) w) := by
  have HS := Lib.hid hs
  cases h0 : t.toList.isEmpty
  rotate_left
  · go_enter Tryz.func67, Tryz.ntmps67
    go_wp2_with fail
    go_ret
    exact ⟨_, rfl, by show 8 ≤ t.size + 8; omega, (Took.refl HS.out).more (by omega)⟩
  have hpos : 0 < t.size := by
    rcases Nat.eq_zero_or_pos t.size with h | h
    · rw [Lib.toList_data] at h0
      have : t.data.toList = [] := List.length_eq_zero_iff.mp h
      rw [this] at h0; cases h0
    · exact h
  go_enter Tryz.func67, Tryz.ntmps67
  go_wp2_with fail
  refine (next_any sb b _ _ (by omega) (by omega) (by omega) HS.out).mono ?_
  rintro e w1 ⟨i, hi0, hi1, rfl, t1⟩
  obtain ⟨i, rfl⟩ := Int.eq_ofNat_of_zero_le hi0
  have T1 := Lib.hid t1
  clear t1
  go_wp2_with fail
  refine (next_any sb (b + 1) _ _ (by omega) (by omega) (by omega) T1.out.1).mono ?_
  rintro e w2 ⟨j, hj0, hj1, rfl, t2⟩
  have T2 := Lib.hid (T1.out.trans t2)
  clear t2 T1
  obtain ⟨j, rfl⟩ := Int.eq_ofNat_of_zero_le hj0
  have hj8 : j < 8 := by omega
  go_wp2_with fail
  refine (next_any sb (b + 1 + 1) _ _ (by omega) (by omega) (by omega) T2.out.1).mono ?_
  rintro e w3 ⟨m, hm0, hm1, rfl, t3⟩
  have T3 := Lib.hid (T2.out.trans t3)
  clear t3 T2
  have i1 : IntKind.i64.wrap ((i : Int) + 1) = (i : Int) + 1 := IntWalk.i64_in _ (by omega)
  have i2 : ((i : Int) + 1).toNat = i + 1 := by omega
  have i3 : (0 : Int) ≤ (i : Int) + 1 := by omega
  have i4 : i ≤ t.size := by omega
  have i5 : i + 1 ≤ t.size := by omega
  have i6 : (i : Int) + 1 ≤ (t.size : Int) := by omega
  generalize hch : (⟨#[32, 10, 48, 45, 57, 99, 112, 49]⟩ : ByteArray)[j]'(by show j < 8; omega) = ch at *
  clear hch
  have hen := encode_size_le (IntKind.i32.wrap ↑ch.toNat)
  have x1 : (t.extract 0 i).size = i := by rw [ByteArray.size_extract]; omega
  have x2 : (t.extract i t.size).size = t.size - i := by rw [ByteArray.size_extract]; omega
  have x3 : (t.extract (i + 1) t.size).size = t.size - (i + 1) := by rw [ByteArray.size_extract]; omega
  have k1 : ¬ 9223372036854775807 < (t.extract 0 i).size + (Utf8.encode (IntKind.i32.wrap ↑ch.toNat)).size := by omega
  have k2 : ¬ 9223372036854775807 < i + (Utf8.encode (IntKind.i32.wrap ↑ch.toNat)).size := by omega
  have k3 : ¬ 9223372036854775807 < min i t.size + (Utf8.encode (IntKind.i32.wrap ↑ch.toNat)).size := by omega
  have ka0 : ¬ 9223372036854775807 < (t.extract 0 i).size + (Utf8.encode (IntKind.i32.wrap ↑ch.toNat)).size + (t.extract (i + 1) t.size).size := by omega
  have ka1 : ¬ 9223372036854775807 < (t.extract 0 i).size + (Utf8.encode (IntKind.i32.wrap ↑ch.toNat)).size + (t.size - (i + 1)) := by omega
  have ka2 : ¬ 9223372036854775807 < i + (Utf8.encode (IntKind.i32.wrap ↑ch.toNat)).size + (t.extract (i + 1) t.size).size := by omega
  have ka3 : ¬ 9223372036854775807 < i + (Utf8.encode (IntKind.i32.wrap ↑ch.toNat)).size + (t.size - (i + 1)) := by omega
  have ka4 : ¬ 9223372036854775807 < min i t.size + (Utf8.encode (IntKind.i32.wrap ↑ch.toNat)).size + (t.extract (i + 1) t.size).size := by omega
  have ka5 : ¬ 9223372036854775807 < min i t.size + (Utf8.encode (IntKind.i32.wrap ↑ch.toNat)).size + (t.size - (i + 1)) := by omega
  have kb0 : ¬ 9223372036854775807 < (t.extract 0 i).size + (Utf8.encode (IntKind.i32.wrap ↑ch.toNat)).size + (t.extract i t.size).size := by omega
  have kb1 : ¬ 9223372036854775807 < (t.extract 0 i).size + (Utf8.encode (IntKind.i32.wrap ↑ch.toNat)).size + (t.size - i) := by omega
  have kb2 : ¬ 9223372036854775807 < i + (Utf8.encode (IntKind.i32.wrap ↑ch.toNat)).size + (t.extract i t.size).size := by omega
  have kb3 : ¬ 9223372036854775807 < i + (Utf8.encode (IntKind.i32.wrap ↑ch.toNat)).size + (t.size - i) := by omega
  have kb4 : ¬ 9223372036854775807 < min i t.size + (Utf8.encode (IntKind.i32.wrap ↑ch.toNat)).size + (t.extract i t.size).size := by omega
  have kb5 : ¬ 9223372036854775807 < min i t.size + (Utf8.encode (IntKind.i32.wrap ↑ch.toNat)).size + (t.size - i) := by omega
  have kc0 : ¬ 9223372036854775807 < (t.extract 0 i).size + (t.extract (i + 1) t.size).size := by omega
  have kc1 : ¬ 9223372036854775807 < (t.extract 0 i).size + (t.size - (i + 1)) := by omega
  have kc2 : ¬ 9223372036854775807 < i + (t.extract (i + 1) t.size).size := by omega
  have kc3 : ¬ 9223372036854775807 < i + (t.size - (i + 1)) := by omega
  have kc4 : ¬ 9223372036854775807 < min i t.size + (t.extract (i + 1) t.size).size := by omega
  have kc5 : ¬ 9223372036854775807 < min i t.size + (t.size - (i + 1)) := by omega
  have X := Lib.hid (And.intro x1 (And.intro x2 (And.intro x3 hen)))
  clear x1 x2 x3 hen hi0 hi1 hj0 hj1 hj8
  have hmm : m = 0 ∨ m = 1 ∨ m = 2 := by omega
  clear hm0 hm1
  rcases hmm with rfl | rfl | rfl
  · go_wp2_with fail
    go_quiet (fail)
    go_wp2_with fail
    go_ret
    exact ⟨_, rfl, by obtain ⟨x1, x2, x3, hen⟩ := X.out; simp only [ByteArray.size_append]; omega, T3.out.drewN _⟩
  · go_wp2_with fail
    go_quiet (fail)
    go_wp2_with fail
    go_ret
    exact ⟨_, rfl, by obtain ⟨x1, x2, x3, hen⟩ := X.out; simp only [ByteArray.size_append]; omega, T3.out.drewN _⟩
  · go_wp2_with fail
    go_quiet (fail)
    go_wp2_with fail
    go_ret
    exact ⟨_, rfl, by obtain ⟨x1, x2, x3, hen⟩ := X.out; simp only [ByteArray.size_append]; omega, T3.out.drewN _⟩

theorem Gl.kept {sb : Nat} {w w' : World} (h : Gl w) (hb : Kept sb w w') (hl : gLow ≤ sb) (hw : gLow ≤ w.heap.size) : Gl w' := by
  obtain ⟨⟨m, hm⟩, ht⟩ := h
  unfold gLow at hl hw
  refine ⟨⟨m, (hb.cell (p := ⟨0, 0, none⟩) (by show (0 : Nat) < w.heap.size; omega) (by show (0 : Nat) ≠ sb; omega)).trans hm⟩, ?_⟩
  unfold Lib.TabIs World.var? at *
  rw [gPow] at ht ⊢
  simp only [Option.bind_some] at ht ⊢
  rw [hb.old 1 (by omega) (by omega)]
  exact ht

set_option maxHeartbeats 4000000 in
theorem prodText_any (sb b : Nat) (w : World) (hb : b ≤ 800000) (hs : IsStream w sb b) (hG : Gl w) (hsb : gLow ≤ sb) :
    Calls Tryz.prog 17 #[.pointer (some ⟨sb, 0, none⟩)] w (TextOf sb (b + 1208) 200016 w) := by
  have hlt := hs.lt
  have CR := Lib.hid (rightProd_any sb b w (by omega) hs)
  go_enter Tryz.func17, Tryz.ntmps17
  go_wp2_with fail
  refine CR.out.mono ?_
  rintro e w1 ⟨key, Wd, Hg, A, c, l, rfl, hE, hA, t1⟩
  have CP := Lib.hid (plines_any key Wd Hg A c l (prodErr_fit hE) w1 hA (hG.kept t1.2 hsb (by omega)) (by have := t1.size; omega))
  have hts := text_size (prodErr_fit hE)
  have T1 := Lib.hid t1
  clear t1 hE hA CR
  generalize textB key Wd Hg l = T at *
  go_wp2_with fail
  refine CP.out.mono ?_
  rintro e w2 ⟨rfl, b2⟩
  have T2 := Lib.hid (T1.out.below b2)
  clear b2 CP T1
  go_wp2_with fail
  refine (pick_lit sb (b + 1200) [0, 0, 1, 2] w2 w2.heap.size 4 rfl (by omega) (by omega) rfl (by omega) T2.out.1).mono ?_
  rintro e w3 ⟨x, hx, rfl, t3⟩
  have T3 := Lib.hid (T2.out.trans t3)
  have hx0 : 0 ≤ x ∧ x ≤ 2 := by
    simp at hx
    rcases hx with rfl | rfl | rfl <;> omega
  obtain ⟨x0, x1⟩ := hx0
  obtain ⟨n, rfl⟩ := Int.eq_ofNat_of_zero_le x0
  clear hx t3 T2 x0
  have hn2 : n ≤ 2 := by omega
  clear x1
  have hss : T.size ≤ 200000 + 8 * 0 := hts
  clear hts
  go_wp2_with fail
  go_loopw [3, 10] (fun v3 kk wr => ∃ (k : Nat) (r : ByteArray), k ≤ n ∧ kk = .int .i64 k ∧ v3 = .string r ∧ r.size ≤ 200000 + 8 * k ∧ Hid (Took sb (b + 1201 + 3 * k) w wr)) (fun _ kk _ => n - (intOf kk).toNat)
  case atStart => exact ⟨0, T, by omega, rfl, rfl, hss, T3⟩
  case round =>
    obtain ⟨k, r, hk, rfl, rfl, hr, HS⟩ := hrel
    by_cases hkn : k < n
    · go_wp2_with fail
      refine (changed_any sb (b + 1201 + 3 * k) r (by omega) wr (by omega) HS.out.1).mono ?_
      rintro e w4 ⟨r4, rfl, hr4, t4⟩
      have T4 := Lib.hid ((HS.out.trans t4).more (show b + 1201 + 3 * k + 3 ≤ b + 1201 + 3 * (k + 1) by omega))
      clear t4 HS
      go_wp2_with fail
      go_roundw
      case rel => exact ⟨k + 1, r4, by omega, by go_num, rfl, by omega, T4⟩
      case measure => simp [intOf]; omega
    · obtain rfl : k = n := by omega
      go_wp2_with fail
      refine (flip_any sb (b + 1201 + 3 * k) 40 wr (by omega) (by omega) (by omega) HS.out.1).mono ?_
      rintro e w5 ⟨f, rfl, t5⟩
      have T5 := Lib.hid ((HS.out.trans t5).more (show b + 1201 + 3 * k + 1 ≤ b + 1208 by omega))
      clear t5 HS
      cases f
      · go_wp2_with fail
        go_ret
        exact ⟨_, rfl, by omega, T5.out⟩
      · go_wp2_with fail
        go_ret
        exact ⟨_, rfl, by show 0 ≤ _; omega, T5.out⟩
end Go.Proofs.YtalconjnjaffkaaGreatDoor
