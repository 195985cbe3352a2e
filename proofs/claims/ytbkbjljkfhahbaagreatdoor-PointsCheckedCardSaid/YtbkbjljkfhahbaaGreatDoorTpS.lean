/-
  The makers of texts of points; equality of points.
-/
import Derived.Test.YtbkbjljkfhahbaaGreatDoorTpL
import Derived.Test.YtbkbjljkfhahbaaGreatDoorTpQ
import Derived.Test.YtbkbjljkfhahbaaGreatDoorTpT
import Derived.IntWalk
import Derived.Laws.Cover4
namespace Go.Proofs.YtbkbjljkfhahbaaGreatDoor
open Go.RowKit
set_option linter.unusedSimpArgs false
set_option linter.unusedVariables false

def TextOf (sb b n : Nat) (w : World) (e : Ending) (w' : World) : Prop := ∃ r : ByteArray, e = .returned (.string r) ∧ r.size ≤ n ∧ Took sb b w w'
set_option maxHeartbeats 4000000 in
theorem changedW_any (sb b : Nat) (t wt : ByteArray) (ht : t.size ≤ 900000) (hw0 : 0 < wt.size) (hw1 : wt.size ≤ 100) (w : World) (hb : b ≤ 900000) (hs : IsStream w sb b) :
    Calls Tryz.prog 50 #[.pointer (some ⟨sb, 0, none⟩), .string t, .string wt] w (TextOf sb (b + 3) (t.size + 100) w) := by
  have HS := Lib.hid hs
  have hwe : wt.toList.isEmpty = false := by
    rw [Lib.toList_data]
    cases he : wt.data.toList with
    | nil => have h : wt.data.toList.length = 0 := by rw [he]; rfl
             exact absurd h (by show ¬ wt.size = 0; omega)
    | cons a r => rfl
  cases h0 : t.toList.isEmpty
  rotate_left
  · go_enter Tryz.func50, Tryz.ntmps50
    go_wp2_with fail
    go_ret
    exact ⟨_, rfl, by omega, (Took.refl HS.out).more (by omega)⟩
  have hpos : 0 < t.size := by
    rcases Nat.eq_zero_or_pos t.size with h | h
    · rw [Lib.toList_data] at h0
      have : t.data.toList = [] := List.length_eq_zero_iff.mp h
      rw [this] at h0; cases h0
    · exact h
  go_enter Tryz.func50, Tryz.ntmps50
  go_wp2_with fail
  refine (next_any sb b _ _ (by omega) (by omega) (by omega) HS.out).mono ?_
  rintro e w1 ⟨i, hi0, hi1, rfl, t1⟩
  obtain ⟨i, rfl⟩ := Int.eq_ofNat_of_zero_le hi0
  have T1 := Lib.hid t1
  clear t1
  go_wp2_with fail
  refine (next_any sb (b + 1) _ _ (by omega) (by omega) (by omega) T1.out.1).mono ?_
  rintro e w2 ⟨j, hj0, hj1, rfl, t2⟩
  have T2 := Lib.hid (T1.out.trans t2)
  clear t2 T1
  obtain ⟨j, rfl⟩ := Int.eq_ofNat_of_zero_le hj0
  have hj8 : j < wt.size := by omega
  go_wp2_with fail
  refine (next_any sb (b + 1 + 1) _ _ (by omega) (by omega) (by omega) T2.out.1).mono ?_
  rintro e w3 ⟨m, hm0, hm1, rfl, t3⟩
  have T3 := Lib.hid (T2.out.trans t3)
  clear t3 T2
  have i1 : IntKind.i64.wrap ((i : Int) + 1) = (i : Int) + 1 := IntWalk.i64_in _ (by omega)
  have i2 : ((i : Int) + 1).toNat = i + 1 := by omega
  have i3 : (0 : Int) ≤ (i : Int) + 1 := by omega
  have i4 : i ≤ t.size := by omega
  have i5 : i + 1 ≤ t.size := by omega
  have i6 : (i : Int) + 1 ≤ (t.size : Int) := by omega
  generalize hch : wt[j]'hj8 = ch at *
  clear hch
  have hen := encode_size_le (IntKind.i32.wrap ↑ch.toNat)
  have x1 : (t.extract 0 i).size = i := by rw [ByteArray.size_extract]; omega
  have x2 : (t.extract i t.size).size = t.size - i := by rw [ByteArray.size_extract]; omega
  have x3 : (t.extract (i + 1) t.size).size = t.size - (i + 1) := by rw [ByteArray.size_extract]; omega
  have k1 : ¬ 9223372036854775807 < (t.extract 0 i).size + (Utf8.encode (IntKind.i32.wrap ↑ch.toNat)).size := by omega
  have k2 : ¬ 9223372036854775807 < i + (Utf8.encode (IntKind.i32.wrap ↑ch.toNat)).size := by omega
  have k3 : ¬ 9223372036854775807 < min i t.size + (Utf8.encode (IntKind.i32.wrap ↑ch.toNat)).size := by omega
  have ka0 : ¬ 9223372036854775807 < (t.extract 0 i).size + (Utf8.encode (IntKind.i32.wrap ↑ch.toNat)).size + (t.extract (i + 1) t.size).size := by omega
  have ka1 : ¬ 9223372036854775807 < (t.extract 0 i).size + (Utf8.encode (IntKind.i32.wrap ↑ch.toNat)).size + (t.size - (i + 1)) := by omega
  have ka2 : ¬ 9223372036854775807 < i + (Utf8.encode (IntKind.i32.wrap ↑ch.toNat)).size + (t.extract (i + 1) t.size).size := by omega
  have ka3 : ¬ 9223372036854775807 < i + (Utf8.encode (IntKind.i32.wrap ↑ch.toNat)).size + (t.size - (i + 1)) := by omega
  have ka4 : ¬ 9223372036854775807 < min i t.size + (Utf8.encode (IntKind.i32.wrap ↑ch.toNat)).size + (t.extract (i + 1) t.size).size := by omega
  have ka5 : ¬ 9223372036854775807 < min i t.size + (Utf8.encode (IntKind.i32.wrap ↑ch.toNat)).size + (t.size - (i + 1)) := by omega
  have kb0 : ¬ 9223372036854775807 < (t.extract 0 i).size + (Utf8.encode (IntKind.i32.wrap ↑ch.toNat)).size + (t.extract i t.size).size := by omega
  have kb1 : ¬ 9223372036854775807 < (t.extract 0 i).size + (Utf8.encode (IntKind.i32.wrap ↑ch.toNat)).size + (t.size - i) := by omega
  have kb2 : ¬ 9223372036854775807 < i + (Utf8.encode (IntKind.i32.wrap ↑ch.toNat)).size + (t.extract i t.size).size := by omega
  have kb3 : ¬ 9223372036854775807 < i + (Utf8.encode (IntKind.i32.wrap ↑ch.toNat)).size + (t.size - i) := by omega
  have kb4 : ¬ 9223372036854775807 < min i t.size + (Utf8.encode (IntKind.i32.wrap ↑ch.toNat)).size + (t.extract i t.size).size := by omega
  have kb5 : ¬ 9223372036854775807 < min i t.size + (Utf8.encode (IntKind.i32.wrap ↑ch.toNat)).size + (t.size - i) := by omega
  have kc0 : ¬ 9223372036854775807 < (t.extract 0 i).size + (t.extract (i + 1) t.size).size := by omega
  have kc1 : ¬ 9223372036854775807 < (t.extract 0 i).size + (t.size - (i + 1)) := by omega
  have kc2 : ¬ 9223372036854775807 < i + (t.extract (i + 1) t.size).size := by omega
  have kc3 : ¬ 9223372036854775807 < i + (t.size - (i + 1)) := by omega
  have kc4 : ¬ 9223372036854775807 < min i t.size + (t.extract (i + 1) t.size).size := by omega
  have kc5 : ¬ 9223372036854775807 < min i t.size + (t.size - (i + 1)) := by omega
  have X := Lib.hid (And.intro x1 (And.intro x2 (And.intro x3 hen)))
  clear x1 x2 x3 hen hi0 hi1 hj0 hj1 hj8
  have hmm : m = 0 ∨ m = 1 ∨ m = 2 := by omega
  clear hm0 hm1
  rcases hmm with rfl | rfl | rfl
  · go_wp2_with fail
    go_quiet (fail)
    go_wp2_with fail
    go_ret
    exact ⟨_, rfl, by obtain ⟨x1, x2, x3, hen⟩ := X.out; simp only [ByteArray.size_append]; omega, T3.out.drewN _⟩
  · go_wp2_with fail
    go_quiet (fail)
    go_wp2_with fail
    go_ret
    exact ⟨_, rfl, by obtain ⟨x1, x2, x3, hen⟩ := X.out; simp only [ByteArray.size_append]; omega, T3.out.drewN _⟩
  · go_wp2_with fail
    go_quiet (fail)
    go_wp2_with fail
    go_ret
    exact ⟨_, rfl, by obtain ⟨x1, x2, x3, hen⟩ := X.out; simp only [ByteArray.size_append]; omega, T3.out.drewN _⟩

theorem Gl.kept {sb : Nat} {w w' : World} (h : Gl w) (hb : Kept sb w w') (hl : gLow ≤ sb) (hw : gLow ≤ w.heap.size) : Gl w' := by
  obtain ⟨⟨m, hm⟩, ht⟩ := h
  unfold gLow at hl hw
  refine ⟨⟨m, (hb.cell (p := ⟨0, 0, none⟩) (by show (0 : Nat) < w.heap.size; omega) (by show (0 : Nat) ≠ sb; omega)).trans hm⟩, ?_⟩
  unfold Lib.TabIs World.var? at *
  rw [gPow] at ht ⊢
  simp only [Option.bind_some] at ht ⊢
  rw [hb.old 1 (by omega) (by omega)]
  exact ht


set_option maxHeartbeats 4000000 in
theorem pointString_any (sb b : Nat) (w : World) (hb : b ≤ 700000) (hs : IsStream w sb b) (hG : Gl w) (hsb : gLow ≤ sb) :
    Calls Tryz.prog 25 #[.pointer (some ⟨sb, 0, none⟩)] w (TextOf sb (b + 33) 30000 w) := by
  have hlt := hs.lt
  have CR := Lib.hid (pointsOf_any sb b 5 (by omega) w (by omega) hs)
  go_enter Tryz.func25, Tryz.ntmps25
  go_wp2_with fail
  refine CR.out.mono ?_
  rintro e w1 ⟨v, l, rfl, hl5, how, t1⟩
  have HR := Lib.hid (reads_own how)
  obtain ⟨A, c, rfl, _⟩ := own_form how
  have hG1 := hG.kept t1.2 hsb (by omega)
  have hz1 := t1.size
  have CF := Lib.hid (pointsFault1_any l (by omega) 500 HR.out)
  have T1 := Lib.hid t1
  clear t1 CR how
  go_wp2_with fail
  refine CF.out.mono ?_
  rintro e w2 ⟨rfl, b2⟩
  have H2 := Lib.hid (And.intro (T1.out.below b2) (HR.out.below b2))
  have hG2 := Lib.hid (hG1.below b2 (by omega))
  have hz2 := b2.size
  clear b2 CF hG1
  go_upto_if 9 with (fail)
  go_cut [3] (fun v3 wc => ∃ T : ByteArray, v3 = .string T ∧ T.size ≤ 22000 ∧ Hid (Took sb (b + 26) w wc))
  case first =>
    by_cases hE : ptsErr 500 l = 0
    · have HOK := Lib.hid (ptsErr_ok hE)
      have CP := Lib.hid (pointLines_any l (by omega) HOK.out.2 w2 H2.out.2 hG2.out (by omega))
      have hts := ptsB_size HOK.out.2 (by omega)
      have heq : (ptsErr 500 l == 0) = true := by simpa using hE
      generalize ptsErr 500 l = E at *
      go_wp2_with fail
      refine CP.out.mono ?_
      rintro e w3 ⟨rfl, b3⟩
      have H3 := Lib.hid ((H2.out.1.below b3).more (show b + 1 + 5 * 5 ≤ b + 26 by omega))
      clear b3
      go_wp2_with fail
      go_meet
      exact ⟨_, rfl, hts, H3⟩
    · have heq : (ptsErr 500 l == 0) = false := by simpa using hE
      generalize ptsErr 500 l = E at *
      go_wp2_with fail
      go_meet
      exact ⟨dS, rfl, Nat.zero_le _, H2.out.1.more (by omega)⟩
  case rest =>
    obtain ⟨T, rfl, hts, T2⟩ := hcut
    clear H2 hG2 HR T1
    go_wp2_with fail
    refine (pick_lit sb (b + 26) [0, 0, 1, 2] wc wc.heap.size 4 rfl (by omega) (by omega) rfl (by omega) T2.out.1).mono ?_
    rintro e w3 ⟨x, hx, rfl, t3⟩
    have T3 := Lib.hid (T2.out.trans t3)
    have hx0 : 0 ≤ x ∧ x ≤ 2 := by
      simp at hx
      rcases hx with rfl | rfl | rfl <;> omega
    obtain ⟨x0, x1⟩ := hx0
    obtain ⟨n, rfl⟩ := Int.eq_ofNat_of_zero_le x0
    clear hx t3 T2 x0
    have hn2 : n ≤ 2 := by omega
    clear x1
    have hss : T.size ≤ 22000 + 100 * 0 := hts
    clear hts
    go_wp2_with fail
    go_loopw [3, 15] (fun v3 kk wr => ∃ (k : Nat) (r : ByteArray), k ≤ n ∧ kk = .int .i64 k ∧ v3 = .string r ∧ r.size ≤ 22000 + 100 * k ∧ Hid (Took sb (b + 27 + 3 * k) w wr)) (fun _ kk _ => n - (intOf kk).toNat)
    case atStart => exact ⟨0, T, by omega, rfl, rfl, hss, T3⟩
    case round =>
      obtain ⟨k, r, hk, rfl, rfl, hr, HS⟩ := hrel
      by_cases hkn : k < n
      · go_wp2_with fail
        refine (changedW_any sb (b + 27 + 3 * k) r ⟨#[32, 10, 48, 49, 45]⟩ (by omega) (by decide) (by decide) wr (by omega) HS.out.1).mono ?_
        rintro e w4 ⟨r4, rfl, hr4, t4⟩
        have T4 := Lib.hid ((HS.out.trans t4).more (show b + 27 + 3 * k + 3 ≤ b + 27 + 3 * (k + 1) by omega))
        clear t4 HS
        go_wp2_with fail
        go_roundw
        case rel => exact ⟨k + 1, r4, by omega, by go_num, rfl, by omega, T4⟩
        case measure => simp [intOf]; omega
      · obtain rfl : k = n := by omega
        have T5 := Lib.hid (HS.out.more (show b + 27 + 3 * k ≤ b + 33 by omega))
        clear HS
        go_wp2_with fail
        go_ret
        exact ⟨_, rfl, by omega, T5.out⟩

set_option maxHeartbeats 2000000 in
theorem equalPt_any (l : List (Int × Int)) (hl : l.length ≤ 2000000) (v1 v2 : Value) (w : World) (h1 : Reads encP v1 l w) (h2 : Reads encP v2 l w) :
    Calls Tryz.prog 28 #[v1, v2] w fun e w' => e = .returned (.bool true) ∧ Below w.heap.size w w' := by
  obtain ⟨A1, c1, rfl, h1⟩ := h1
  obtain ⟨A2, c2, rfl, h2⟩ := h2
  go_enter Tryz.func28, Tryz.ntmps28
  go_wp2_with fail
  go_loopw [13] (fun kk wr => ∃ k : Nat, k ≤ l.length ∧ kk = .int .i64 k ∧ Hid (Below w.heap.size w wr)) (fun kk _ => l.length - (intOf kk).toNat)
  case atStart => exact ⟨0, by omega, rfl, Below.refl _ _⟩
  case round =>
    obtain ⟨k, hk, rfl, HB⟩ := hrel
    by_cases hlt : k < l.length
    · obtain ⟨p, hp⟩ : ∃ p, l[k] = p := ⟨_, rfl⟩
      rcases h1 with rfl | ⟨g1, rfl, r1⟩
      · simp at hlt
      rcases h2 with rfl | ⟨g2, rfl, r2⟩
      · simp at hlt
      obtain ⟨a0, a1⟩ := row_pt (r1.below HB.out) hlt
      obtain ⟨b0, b1⟩ := row_pt (r2.below HB.out) hlt
      rw [hp] at a0 a1 b0 b1
      have R1 := Lib.hid r1
      have R2 := Lib.hid r2
      clear hp r1 r2
      obtain ⟨x, y⟩ := p
      dsimp only at a0 a1 b0 b1
      have i1 : (0 : Int) ≤ (k : Int) := by omega
      have i2 : (k : Int) < (l.length : Int) := by omega
      go_wp2_with fail
      go_quiet (fail)
      go_wp2_with fail
      go_roundw
      case rel => exact ⟨k + 1, by omega, by go_num, HB.out.drawN _⟩
      case measure => simp [intOf]; omega
    · go_wp2_with fail
      go_ret
      exact ⟨rfl, HB.out⟩
end Go.Proofs.YtbkbjljkfhahbaaGreatDoor
