/-
  The reference's numerals and words (rfref2).
-/
import Derived.Test.YtalconjnjaffkaaGreatDoorTxE
namespace Go.Proofs.YtalconjnjaffkaaGreatDoor
open Go.RowKit
set_option linter.unusedSimpArgs false
set_option linter.unusedVariables false

def digitsS : ByteArray := ⟨#[48, 49, 50, 51, 52, 53, 54, 55, 56, 57]⟩
theorem digits_all : ∀ n, n < 256 → memB digitsS.data.toList (UInt8.ofNat n) = digB (UInt8.ofNat n) := by decide +kernel
theorem digits_mem (x : UInt8) : memB digitsS.data.toList x = digB x := by
  have := digits_all x.toNat x.toNat_lt
  simpa using this
theorem only_digits (d : ByteArray) : onlyB d digitsS = allDig (bt d) := by
  unfold onlyB onlyL allDig
  congr 1
  funext x
  exact digits_mem x
theorem sgn_in (s : ByteArray) (h : allDig (digsOf (bt s)) = true) (hl : (digsOf (bt s)).length ≤ 15) : -9223372036854775808 ≤ sgn (bt s) ∧ sgn (bt s) ≤ 9223372036854775807 := by
  have h1 := val_lt h (by omega)
  have h2 := pow18 (k := (digsOf (bt s)).length) (by omega)
  unfold sgn
  split <;> omega
/-- What a numeral's test comes to where all is digits. -/
theorem num_itoa {most : Nat} {s : ByteArray} (h1 : (digB' s).size ≠ 0) (h2 : (digB' s).size ≤ most) (h4 : allDig (bt (digB' s)) = true) : numB most s = ((itB (sgn (bt s))).toList == s.toList) ∧ (numB most s = true → numI most s = sgn (bt s)) := by
  have hi := @itoa_iff (bt s) (by rw [← digs_size]; exact h1) (by rw [← digs_bt]; exact h4)
  have hb : ((itB (sgn (bt s))).toList == s.toList) = true ↔ Lib.itoa (sgn (bt s)) = bt s := by
    rw [beq_iff_eq, Lib.toList_data, Lib.toList_data]
    unfold itB
    simp
  by_cases h3 : (bt (digB' s)).head? = some 48 ∧ s ≠ ⟨#[48]⟩
  · have hn := num_none (most := most) (s := s) (.inr (.inr (.inl h3)))
    refine ⟨?_, fun h => by rw [hn.1] at h; cases h⟩
    rw [hn.1]
    symm
    rw [Bool.eq_false_iff]
    intro h
    have := hi.mp (hb.mp h)
    rw [← digs_bt] at this
    exact this ⟨h3.1, fun e => h3.2 (bt_inj e)⟩
  · have hn := num_some h1 h2 h3 h4
    refine ⟨?_, fun _ => hn.2⟩
    rw [hn.1]
    symm
    refine hb.mpr (hi.mpr ?_)
    rw [← digs_bt]
    rintro ⟨a, b⟩
    exact h3 ⟨a, fun e => b (by rw [e])⟩

set_option maxHeartbeats 2000000 in
theorem numberQ_any (s : ByteArray) (most : Nat) (hm : most ≤ 15) (hs : s.size ≤ 1000000) (w : World) (hG : Gl w) (hw : gLow ≤ w.heap.size) :
    Calls Tryz.prog 146 #[.string s, .int .i64 most] w fun e w' => ∃ n, e = .returned (.tuple #[.int .i64 n, .bool (numB most s)]) ∧ (numB most s = true → n = numI most s) ∧ Below w.heap.size w w' := by
  have CT : Hid (Calls Tryz.prog 178 #[.string s, .string ⟨#[45]⟩] w fun e w' => e = .returned (.string (digB' s)) ∧ w' = w) := by
    have := Tryz.strings_TrimPrefix s ⟨#[45]⟩ w
    rw [show (⟨#[45]⟩ : ByteArray).data.toList = [45] from rfl, digsOf_trim] at this
    exact this
  have hsz := digs_le s
  have CO : Hid (Calls Tryz.prog 143 #[.string (digB' s), .string digitsS] w fun e w' => e = .returned (.bool (allDig (bt (digB' s)))) ∧ w = w') := by
    have := only_any (digB' s) digitsS w (by omega)
    rw [only_digits] at this
    exact this
  have HN := Lib.hid (@num_none most s)
  have HI := Lib.hid (@num_itoa most s)
  have HA := Lib.hid (@atoi_some (bt s))
  have HS := Lib.hid (sgn_in s)
  have HZ := Lib.hid (digs_size s)
  have HB := Lib.hid (digs_bt s)
  generalize digB' s = d at *
  generalize numI most s = n at *
  generalize numB most s = b at *
  have HE : Hid (d.toList.isEmpty = true ↔ d.size = 0) := by
    rw [Lib.toList_data, List.isEmpty_iff]
    exact ⟨fun h => by show d.data.toList.length = 0; rw [h]; rfl, fun h => List.length_eq_zero_iff.mp h⟩
  by_cases h0 : d.size = 0
  · obtain ⟨rfl, rfl⟩ := HN.out (.inl h0)
    have e0 := HE.out.mpr h0
    clear HN HS HA HZ HB HI HE CO
    go_enter Tryz.func146, Tryz.ntmps146
    go_wp2_with fail
    refine CT.out.mono ?_
    rintro e w' ⟨rfl, rfl⟩
    go_wp2_with fail
    refine bodyPost_ret (v := .tuple #[.int .i64 0, .bool false]) (by unfold results; simp only [Tryz.results146]; go_simp) rfl ⟨_, rfl, fun h => (by cases h), Below.refl _ _⟩
  have e0 : d.toList.isEmpty = false := by rw [Bool.eq_false_iff]; exact fun h => h0 (HE.out.mp h)
  by_cases hlt : most < d.size
  · obtain ⟨rfl, rfl⟩ := HN.out (.inr (.inl hlt))
    clear HN HS HA HZ HB HI HE CO
    go_enter Tryz.func146, Tryz.ntmps146
    go_wp2_with fail
    refine CT.out.mono ?_
    rintro e w' ⟨rfl, rfl⟩
    go_wp2_with fail
    refine bodyPost_ret (v := .tuple #[.int .i64 0, .bool false]) (by unfold results; simp only [Tryz.results146]; go_simp) rfl ⟨_, rfl, fun h => (by cases h), Below.refl _ _⟩
  cases hd : allDig (bt d)
  · obtain ⟨rfl, rfl⟩ := HN.out (.inr (.inr (.inr hd)))
    rw [hd] at CO
    clear HN HS HA HZ HB HI HE hd
    go_enter Tryz.func146, Tryz.ntmps146
    go_wp2_with fail
    refine CT.out.mono ?_
    rintro e w' ⟨rfl, rfl⟩
    go_wp2_with fail
    refine CO.out.mono ?_
    rintro e w' ⟨rfl, rfl⟩
    go_wp2_with fail
    refine bodyPost_ret (v := .tuple #[.int .i64 0, .bool false]) (by unfold results; simp only [Tryz.results146]; go_simp) rfl ⟨_, rfl, fun h => (by cases h), Below.refl _ _⟩
  · have hd2 : allDig (digsOf (bt s)) = true := by rw [← HB.out]; exact hd
    have hl2 : (digsOf (bt s)).length ≤ 15 := by rw [← HZ.out]; omega
    have HV := Lib.hid (HI.out h0 (by omega) hd)
    have hin := HS.out hd2 hl2
    have CA := Lib.hid (Tryz.strconv_Atoi s (sgn (bt s)) (by omega) (HA.out (by rw [← HZ.out]; exact h0) hd2) w)
    have CI := Lib.hid (fun (W : World) (hG : Gl W) => itoa_any (sgn (bt s)) hin.1 hin.2 W hG)
    rw [hd] at CO
    clear HN HS HA HZ HB HI HE hd hd2 hl2 hin
    rw [show (⟨(Lib.itoa (sgn (bt s))).toArray⟩ : ByteArray) = itB (sgn (bt s)) from rfl] at CI
    generalize itB (sgn (bt s)) = it at *
    go_enter Tryz.func146, Tryz.ntmps146
    go_wp2_with fail
    refine CT.out.mono ?_
    rintro e w' ⟨rfl, rfl⟩
    go_wp2_with fail
    refine CO.out.mono ?_
    rintro e w' ⟨rfl, rfl⟩
    go_wp2_with fail
    refine CA.out.mono ?_
    rintro e w2 ⟨rfl, t, rfl⟩
    have HB2 := Lib.hid (Go.Joins.below_bytesWorld w'.heap.size w' 5 t (Nat.le_refl _))
    have hG2 := Lib.hid (hG.below HB2.out hw)
    generalize Lib.bytesWorld w' 5 t = w2 at *
    go_wp2_with fail
    refine (CI.out _ hG2.out).mono ?_
    rintro e w3 ⟨rfl, b3⟩
    have HF := Lib.hid (HB2.out.then_below b3 HB2.out.size)
    clear b3
    go_wp2_with fail
    refine bodyPost_ret (v := .tuple #[.int .i64 (sgn (bt s)), .bool (it.toList == s.toList)]) (by unfold results; simp only [Tryz.results146]; go_simp) rfl ⟨_, by rw [HV.out.1], fun h => (HV.out.2 h).symm, HF.out⟩

set_option maxHeartbeats 2000000 in
theorem numbersQ_any (ws : List ByteArray) (most : Nat) (hm : most ≤ 15) (hl : ws.length ≤ 1000000) (hz : ∀ x ∈ ws, x.size ≤ 1000000) {v : Value} {w : World} (h : StrsAt v ws w) (hG : Gl w) (hw : gLow ≤ w.heap.size) :
    Calls Tryz.prog 94 #[v, .int .i64 most] w fun e w' => ∃ u, e = .returned (.tuple #[u, .bool (numsB most ws)]) ∧ Below w.heap.size w w' ∧ ∃ l : List Int, l.length = ws.length ∧ ReadsF w.heap.size encZ u l w' ∧ (numsB most ws = true → l = numsI most ws) := by
  have HH := Lib.hid (And.intro h hG)
  obtain ⟨A, c, rfl, hc, _⟩ := h
  clear hG
  go_enter Tryz.func94, Tryz.ntmps94
  go_wp2_with fail
  go_loopw [6, 7, 14] (fun v6 v7 kk wr => ∃ (k : Nat) (l : List Int) (b : Bool), k ≤ ws.length ∧ kk = .int .i64 k ∧ v7 = .bool b ∧ l.length = k ∧ w.heap.size ≤ wr.heap.size ∧ Hid (Below w.heap.size w wr ∧ b = numsB most (ws.take k) ∧ (b = true → l = numsI most (ws.take k)) ∧ wr.ownsRow w.heap.size 3 1 v6 l.length (l.map (Value.int .i64)))) (fun _ _ kk _ => ws.length - (intOf kk).toNat)
  case atStart => exact ⟨0, [], true, by omega, rfl, rfl, rfl, Nat.le_refl _, Below.refl _ _, rfl, fun _ => rfl, World.ownsRow_nil _ _ _ _⟩
  case round =>
    obtain ⟨k, l, b, hk, rfl, rfl, hlk, hwz, HS⟩ := hrel
    have HLK := Lib.hid hlk
    have hl1 : l.length ≤ 1000000 := by omega
    clear hlk
    obtain ⟨A6, c6, rfl, hc6, _⟩ := own_slice' HS.out.2.2.2
    by_cases hlt : k < ws.length
    · obtain ⟨g, o, rfl, hgl, hcs⟩ : ∃ g o : Nat, A = some ⟨g, o, none⟩ ∧ g < wr.heap.size ∧ ∀ j (h : j < ws.length), wr.cell? ⟨g, o + j, none⟩ = some (.string ws[j]) := by
        obtain ⟨A', c', e, _, hr⟩ := HH.out.1.below HS.out.1
        cases e
        rcases hr with hr | hr
        · subst hr; simp at hlt
        · exact hr
      have q1 := hcs k hlt
      have i1 : (0 : Int) ≤ (k : Int) := by omega
      have i2 : (k : Int) < (ws.length : Int) := by omega
      have CN := Lib.hid (numberQ_any ws[k] most hm (hz _ (List.getElem_mem hlt)) wr (HH.out.2.below HS.out.1 hw) (by omega))
      have HT : Hid (ws.take (k + 1) = ws.take k ++ [ws[k]]) := (List.take_append_getElem hlt).symm
      clear hcs
      generalize ws[k] = x at *
      have HE1 : Hid (numsB most (ws.take (k + 1)) = (numsB most (ws.take k) && numB most x)) := by
        show _ = _
        rw [HT.out]
        unfold numsB
        rw [List.all_append]
        simp
      have HE2 : Hid (numsI most (ws.take (k + 1)) = numsI most (ws.take k) ++ [numI most x]) := by
        show _ = _
        rw [HT.out]
        unfold numsI
        rw [List.map_append]
        rfl
      generalize numB most x = bx at *
      generalize numI most x = nx at *
      go_wp2_with fail
      refine CN.out.mono ?_
      rintro e w1 ⟨n, rfl, hn, b1⟩
      have H1 := Lib.hid (And.intro (HS.out.1.then_below b1 HS.out.1.size) (And.intro HS.out.2.1 (And.intro HS.out.2.2.1 (And.intro (own_below HS.out.2.2.2 b1) hn))))
      have hwz1 : w.heap.size ≤ w1.heap.size := H1.out.1.size
      clear b1 hn HS CN
      obtain ⟨i0, hi0, hz0, hzz1, hz2⟩ := info_parts int_info2
      have HI := Lib.hid (And.intro hi0 (And.intro hz0 (And.intro hzz1 hz2)))
      clear hi0 hz0 hzz1 hz2
      go_wp2_with (at_builtin; refine hold ?_)
      refine loose ?_
      refine wpList_append_own _ rfl _ _ 22 rfl w.heap.size 3 i0 _ 1 8 Tryz.underlying22 HI.out.1 HI.out.2.1 HI.out.2.2.1 HI.out.2.2.2 rfl (by omega) _ l.length (l.map (Value.int .i64)) rfl (H1.out.2.2.2.1.alloc _) ⟨w1.heap.size, 0, none⟩ 1 1 [.int .i64 n] rfl rfl (cell_one_new _ _ _) (by intro u hu; simp at hu; subst hu; rfl) (by unfold maxLen; omega) (by omega) (by simp; omega) ?_
      intro v' w2 hown' hg' _
      have HF : Hid (Below w.heap.size w w2 ∧ (b && bx) = numsB most (ws.take (k + 1)) ∧ ((b && bx) = true → l ++ [n] = numsI most (ws.take (k + 1))) ∧ w2.ownsRow w.heap.size 3 1 v' (l ++ [n]).length ((l ++ [n]).map (Value.int .i64))) := by
        refine ⟨(H1.out.1.alloc hwz1 _).grown hg' (by simp; omega) (own_row H1.out.2.2.2.1), ?_, fun hb => ?_, ?_⟩
        · rw [HE1.out, ← H1.out.2.1]
        · rw [Bool.and_eq_true] at hb
          rw [HE2.out, H1.out.2.2.1 hb.1, H1.out.2.2.2.2 hb.2]
        · rw [List.length_append, List.map_append]
          exact hown'
      have hz3 := HF.out.1.size
      clear hown' hg' H1
      cases b
      · go_wp2_with fail
        go_roundw
        case rel => exact ⟨k + 1, l ++ [n], false, by omega, by go_num, rfl, by rw [List.length_append, HLK.out]; rfl, hz3, HF⟩
        case measure => simp [intOf]; omega
      · go_wp2_with fail
        go_roundw
        case rel => exact ⟨k + 1, l ++ [n], bx, by omega, by go_num, rfl, by rw [List.length_append, HLK.out]; rfl, hz3, by have h := HF.out; rw [Bool.true_and] at h; exact h⟩
        case measure => simp [intOf]; omega
    · have e : ws.take k = ws := List.take_of_length_le (by omega)
      have HF := HS
      rw [e] at HF
      have HK : Hid (l.length = ws.length) := by show _ = _; rw [HLK.out]; omega
      clear HS e
      go_wp2_with fail
      refine bodyPost_ret (v := .tuple #[.slice A6 l.length c6, .bool b]) (by unfold results; simp only [Tryz.results94]; go_simp) rfl ⟨_, by rw [HF.out.2.1], HF.out.1, l, HK.out, own_intz HF.out.2.2.2, fun h => HF.out.2.2.1 (HF.out.2.1.trans h)⟩

set_option maxHeartbeats 1000000 in
theorem wordsQ_any (l : ByteArray) (hl : l.size ≤ 200000) (w : World) (hG : Gl w) :
    Calls Tryz.prog 93 #[.string l] w fun e w' => e = .returned (.tuple #[.slice (some ⟨w.heap.size, 0, none⟩) (wordsB l).length (wordsB l).length, .bool (!has (wordsB l) dS)]) ∧ Below w.heap.size w w' ∧ ReadsF w.heap.size encS (.slice (some ⟨w.heap.size, 0, none⟩) (wordsB l).length (wordsB l).length) (wordsB l) w' := by
  obtain ⟨m, hm⟩ := hG.1
  have CS : Hid (Calls Tryz.prog 136 #[.string l, .string ⟨#[32]⟩] w fun e w' => e = .returned (.slice (some ⟨w.heap.size, 0, none⟩) (wordsB l).length (wordsB l).length) ∧ w' = w.alloc (.cells ((wordsB l).map Value.string).toArray 9)) := by
    rw [wordsB_len]
    exact Tryz.strings_Split l ⟨#[32]⟩ m w (by omega) hm (by decide)
  have hwl : (wordsB l).length ≤ 200001 := by
    rw [wordsB_len]
    have := Lib.countB_mul_le ⟨#[32]⟩ (by decide) l.size l (Nat.le_refl _)
    have e : (⟨#[32]⟩ : ByteArray).size = 1 := rfl
    rw [e] at this
    omega
  clear hm hG
  generalize wordsB l = ws at *
  obtain ⟨hb, hhb⟩ : ∃ b, has ws dS = b := ⟨_, rfl⟩
  have HHB := Lib.hid hhb
  rw [hhb]
  clear hhb
  go_enter Tryz.func93, Tryz.ntmps93
  go_wp2_with fail
  refine CS.out.mono ?_
  rintro e w2 ⟨rfl, rfl⟩
  have H2 : Hid (Below w.heap.size w (w.alloc (.cells (ws.map Value.string).toArray 9)) ∧ ReadsF w.heap.size encS (.slice (some ⟨w.heap.size, 0, none⟩) ws.length ws.length) ws (w.alloc (.cells (ws.map Value.string).toArray 9))) :=
    ⟨(Below.refl _ _).alloc (Nat.le_refl _) _, readsF_lit rfl (Nat.le_refl _) (blk_new w _ rfl) (Nat.le_refl _)⟩
  generalize w.alloc (.cells (ws.map Value.string).toArray 9) = w2 at *
  have CH := Lib.hid (contains_any (c := ws.length) dS ws.length (Nat.le_refl _) (by omega) H2.out.2 ws.length)
  rw [List.take_of_length_le (Nat.le_refl _), HHB.out] at CH
  go_wp2_with fail
  refine CH.out.mono ?_
  rintro e w3 ⟨rfl, rfl⟩
  go_wp2_with fail
  refine bodyPost_ret (v := .tuple #[.slice (some ⟨w.heap.size, 0, none⟩) ws.length ws.length, .bool (!hb)]) (by unfold results; simp only [Tryz.results93]; go_simp) rfl ⟨rfl, H2.out.1, H2.out.2⟩
end Go.Proofs.YtalconjnjaffkaaGreatDoor
