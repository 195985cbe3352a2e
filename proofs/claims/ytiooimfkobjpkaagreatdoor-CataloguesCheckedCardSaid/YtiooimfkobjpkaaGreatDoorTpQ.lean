/-
  The reference reads points (rfref1).
-/
import Derived.Test.YtiooimfkobjpkaaGreatDoorTpR
import Derived.Test.YtiooimfkobjpkaaGreatDoorTxF
import Derived.Test.YtiooimfkobjpkaaGreatDoorShelfT
namespace Go.Proofs.YtiooimfkobjpkaaGreatDoor
open Go.RowKit
set_option linter.unusedSimpArgs false
set_option linter.unusedVariables false

theorem dropWhile_nil {p : UInt8 → Bool} : ∀ {l : List UInt8}, l.dropWhile p = [] ↔ l.all p = true
  | [] => by simp
  | x :: l => by
    rw [List.dropWhile_cons, List.all_cons]
    by_cases h : p x = true
    · rw [if_pos h, dropWhile_nil, h]; simp
    · rw [if_neg h]; simp [h]
theorem dropWhile_head {p : UInt8 → Bool} : ∀ {l : List UInt8} {x : UInt8} {r : List UInt8}, l.dropWhile p = x :: r → p x = false
  | [], _, _, h => by simp at h
  | y :: l, x, r, h => by
    rw [List.dropWhile_cons] at h
    by_cases hy : p y = true
    · rw [if_pos hy] at h; exact dropWhile_head h
    · rw [if_neg hy] at h
      simp at h
      rw [← h.1]
      simpa using hy
theorem trim_nil (l cs : List UInt8) : Lib.trimS l cs = [] ↔ l.all (cs.contains ·) = true := by
  unfold Lib.trimS Lib.trimLeftS Lib.trimRightS
  rw [dropWhile_nil, List.all_reverse]
  constructor
  · intro h
    cases hd : l.reverse.dropWhile (cs.contains ·) with
    | nil => have := dropWhile_nil.mp hd; rwa [List.all_reverse] at this
    | cons x r =>
      have h1 := dropWhile_head hd
      rw [hd, List.all_cons, h1] at h
      simp at h
  · intro h
    have : l.reverse.dropWhile (cs.contains ·) = [] := dropWhile_nil.mpr (by rw [List.all_reverse]; exact h)
    rw [this]; rfl
def digsL : List UInt8 := [48, 49, 50, 51, 52, 53, 54, 55, 56, 57]
theorem digsL_all : ∀ n, n < 256 → digsL.contains (UInt8.ofNat n) = digB (UInt8.ofNat n) := by decide +kernel
theorem digsL_mem (x : UInt8) : digsL.contains x = digB x := by
  have := digsL_all x.toNat x.toNat_lt
  simpa using this
theorem trim_digs (d : ByteArray) : Lib.trimS d.data.toList digsL = [] ↔ allDig (bt d) = true := by
  rw [trim_nil]
  unfold allDig
  have e : (fun x => digsL.contains x) = digB := by funext x; exact digsL_mem x
  rw [e]
theorem digsL_ascii : ∀ (j : Nat) b, (⟨digsL.toArray⟩ : ByteArray).data.toList[j]? = some b → b.toNat < 128 := by
  intro j b h
  have hm : b ∈ digsL := List.mem_of_getElem? h
  have : ∀ x ∈ digsL, x.toNat < 128 := by decide
  exact this b hm

set_option maxHeartbeats 2000000 in
theorem numberR_any (s : ByteArray) (most : Nat) (hm : most ≤ 15) (hs : s.size ≤ 1000000) (w : World) (hG : Gl w) (hw : gLow ≤ w.heap.size) :
    Calls Tryz.prog 68 #[.string s, .int .i64 most] w fun e w' => ∃ n, e = .returned (.tuple #[.int .i64 n, .bool (numB most s)]) ∧ (numB most s = true → n = numI most s) ∧ Below w.heap.size w w' := by
  have CT : Hid (Calls Tryz.prog 88 #[.string s, .string ⟨#[45]⟩] w fun e w' => e = .returned (.string (digB' s)) ∧ w' = w) := by
    have := Tryz.strings_TrimPrefix s ⟨#[45]⟩ w
    rw [show (⟨#[45]⟩ : ByteArray).data.toList = [45] from rfl, digsOf_trim] at this
    exact this
  have hsz := digs_le s
  have CI := Lib.hid (fun W => in1_any ((digB' s).size : Int) 1 most W)
  have CO : Hid (∀ W, Calls Tryz.prog 50 #[.string (digB' s), .string ⟨digsL.toArray⟩] W fun e w' => e = .returned (.string ⟨(Lib.trimS (digB' s).data.toList digsL).toArray⟩) ∧ Below W.heap.size W w') := fun W => Tryz.strings_Trim (digB' s) ⟨digsL.toArray⟩ W (by omega) (by decide) digsL_ascii
  have HTD := Lib.hid (trim_digs (digB' s))
  have HN := Lib.hid (@num_none most s)
  have HI := Lib.hid (@num_itoa most s)
  have HA := Lib.hid (@atoi_some (bt s))
  have HS := Lib.hid (sgn_in s)
  have HZ := Lib.hid (digs_size s)
  have HB := Lib.hid (digs_bt s)
  generalize digB' s = d at *
  generalize numI most s = n at *
  generalize numB most s = b at *
  cases hin : (decide ((1 : Int) ≤ (d.size : Int)) && decide ((d.size : Int) ≤ (most : Int)))
  · obtain ⟨rfl, rfl⟩ : b = false ∧ n = 0 := by
      rw [Bool.and_eq_false_iff, decide_eq_false_iff_not, decide_eq_false_iff_not] at hin
      rcases hin with h | h
      · exact HN.out (.inl (by omega))
      · exact HN.out (.inr (.inl (by omega)))
    rw [hin] at CI
    clear HN HS HA HZ HB HI CO HTD hin
    go_enter Tryz.func68, Tryz.ntmps68
    go_wp2_with fail
    refine CT.out.mono ?_
    rintro e w' ⟨rfl, rfl⟩
    go_wp2_with fail
    refine (CI.out _).mono ?_
    rintro e w' ⟨rfl, rfl⟩
    go_wp2_with fail
    refine bodyPost_ret (v := .tuple #[.int .i64 0, .bool false]) (by unfold results; simp only [Tryz.results68]; go_simp) rfl ⟨_, rfl, fun h => (by cases h), Below.refl _ _⟩
  have hin2 : 1 ≤ d.size ∧ d.size ≤ most := by
    rw [Bool.and_eq_true, decide_eq_true_eq, decide_eq_true_eq] at hin
    omega
  obtain ⟨h0, hlt⟩ := hin2
  rw [hin] at CI
  clear hin
  generalize Lib.trimS d.data.toList digsL = tl at *
  by_cases ht : tl = []
  rotate_left
  · have hd : allDig (bt d) = false := by
      rw [Bool.eq_false_iff]
      exact fun h => ht (HTD.out.mpr h)
    obtain ⟨rfl, rfl⟩ := HN.out (.inr (.inr (.inr hd)))
    have hte : tl.isEmpty = false := by cases tl with | nil => exact absurd rfl ht | cons a r => rfl
    clear HN HS HA HZ HB HI hd HTD
    go_enter Tryz.func68, Tryz.ntmps68
    go_wp2_with fail
    refine CT.out.mono ?_
    rintro e w' ⟨rfl, rfl⟩
    go_wp2_with fail
    refine (CI.out _).mono ?_
    rintro e w' ⟨rfl, rfl⟩
    go_wp2_with fail
    refine (CO.out _).mono ?_
    rintro e w4 ⟨rfl, b4⟩
    have HB4 := Lib.hid b4
    clear b4
    go_wp2_with fail
    refine bodyPost_ret (v := .tuple #[.int .i64 0, .bool false]) (by unfold results; simp only [Tryz.results68]; go_simp) rfl ⟨_, rfl, fun h => (by cases h), HB4.out⟩
  · subst ht
    have hd := HTD.out.mp rfl
    have hd2 : allDig (digsOf (bt s)) = true := by rw [← HB.out]; exact hd
    have hl2 : (digsOf (bt s)).length ≤ 15 := by rw [← HZ.out]; omega
    have HV := Lib.hid (HI.out (by omega) (by omega) hd)
    have hin := HS.out hd2 hl2
    have CA := Lib.hid (fun W => Tryz.strconv_Atoi s (sgn (bt s)) (by omega) (HA.out (by rw [← HZ.out]; omega) hd2) W)
    have CIt := Lib.hid (fun (W : World) (hG : Gl W) => itoa_any (sgn (bt s)) hin.1 hin.2 W hG)
    clear HN HS HA HZ HB HI hd hd2 hl2 hin HTD
    rw [show (⟨(Lib.itoa (sgn (bt s))).toArray⟩ : ByteArray) = itB (sgn (bt s)) from rfl] at CIt
    generalize itB (sgn (bt s)) = it at *
    go_enter Tryz.func68, Tryz.ntmps68
    go_wp2_with fail
    refine CT.out.mono ?_
    rintro e w' ⟨rfl, rfl⟩
    go_wp2_with fail
    refine (CI.out _).mono ?_
    rintro e w' ⟨rfl, rfl⟩
    go_wp2_with fail
    refine (CO.out _).mono ?_
    rintro e w4 ⟨rfl, b4⟩
    have HB4 := Lib.hid b4
    have hz4 := b4.size
    clear b4
    go_wp2_with fail
    refine (CA.out _).mono ?_
    rintro e w2 ⟨rfl, t, rfl⟩
    have HB2 := Lib.hid (HB4.out.then_below (Go.Joins.below_bytesWorld w4.heap.size w4 5 t (Nat.le_refl _)) HB4.out.size)
    have hG2 := Lib.hid (hG.below HB2.out hw)
    generalize Lib.bytesWorld w4 5 t = w2 at *
    go_wp2_with fail
    refine (CIt.out _ hG2.out).mono ?_
    rintro e w3 ⟨rfl, b3⟩
    have HF := Lib.hid (HB2.out.then_below b3 HB2.out.size)
    clear b3
    go_wp2_with fail
    refine bodyPost_ret (v := .tuple #[.int .i64 (sgn (bt s)), .bool (it.toList == s.toList)]) (by unfold results; simp only [Tryz.results68]; go_simp) rfl ⟨_, by rw [HV.out.1], fun h => (HV.out.2 h).symm, HF.out⟩

set_option maxHeartbeats 2000000 in
theorem numbersR_any (ws : List ByteArray) (most : Nat) (hm : most ≤ 15) (hl : ws.length ≤ 1000000) (hz : ∀ x ∈ ws, x.size ≤ 1000000) {v : Value} {w : World} (h : StrsAt v ws w) (hG : Gl w) (hw : gLow ≤ w.heap.size) :
    Calls Tryz.prog 43 #[v, .int .i64 most] w fun e w' => ∃ u, e = .returned (.tuple #[u, .bool (numsB most ws)]) ∧ Below w.heap.size w w' ∧ ∃ l : List Int, l.length = ws.length ∧ ReadsF w.heap.size encZ u l w' ∧ (numsB most ws = true → l = numsI most ws) := by
  have HH := Lib.hid (And.intro h hG)
  obtain ⟨A, c, rfl, hc, _⟩ := h
  clear hG
  go_enter Tryz.func43, Tryz.ntmps43
  go_wp2_with fail
  go_loopw [6, 7, 14] (fun v6 v7 kk wr => ∃ (k : Nat) (l : List Int) (b : Bool), k ≤ ws.length ∧ kk = .int .i64 k ∧ v7 = .bool b ∧ l.length = k ∧ w.heap.size ≤ wr.heap.size ∧ Hid (Below w.heap.size w wr ∧ b = numsB most (ws.take k) ∧ (b = true → l = numsI most (ws.take k)) ∧ wr.ownsRow w.heap.size 3 1 v6 l.length (l.map (Value.int .i64)))) (fun _ _ kk _ => ws.length - (intOf kk).toNat)
  case atStart => exact ⟨0, [], true, by omega, rfl, rfl, rfl, Nat.le_refl _, Below.refl _ _, rfl, fun _ => rfl, World.ownsRow_nil _ _ _ _⟩
  case round =>
    obtain ⟨k, l, b, hk, rfl, rfl, hlk, hwz, HS⟩ := hrel
    have HLK := Lib.hid hlk
    have hl1 : l.length ≤ 1000000 := by omega
    clear hlk
    obtain ⟨A6, c6, rfl, hc6, _⟩ := own_slice' HS.out.2.2.2
    by_cases hlt : k < ws.length
    · obtain ⟨g, o, rfl, hgl, hcs⟩ : ∃ g o : Nat, A = some ⟨g, o, none⟩ ∧ g < wr.heap.size ∧ ∀ j (h : j < ws.length), wr.cell? ⟨g, o + j, none⟩ = some (.string ws[j]) := by
        obtain ⟨A', c', e, _, hr⟩ := HH.out.1.below HS.out.1
        cases e
        rcases hr with hr | hr
        · subst hr; simp at hlt
        · exact hr
      have q1 := hcs k hlt
      have i1 : (0 : Int) ≤ (k : Int) := by omega
      have i2 : (k : Int) < (ws.length : Int) := by omega
      have CN := Lib.hid (numberR_any ws[k] most hm (hz _ (List.getElem_mem hlt)) wr (HH.out.2.below HS.out.1 hw) (by omega))
      have HT : Hid (ws.take (k + 1) = ws.take k ++ [ws[k]]) := (List.take_append_getElem hlt).symm
      clear hcs
      generalize ws[k] = x at *
      have HE1 : Hid (numsB most (ws.take (k + 1)) = (numsB most (ws.take k) && numB most x)) := by
        show _ = _
        rw [HT.out]
        unfold numsB
        rw [List.all_append]
        simp
      have HE2 : Hid (numsI most (ws.take (k + 1)) = numsI most (ws.take k) ++ [numI most x]) := by
        show _ = _
        rw [HT.out]
        unfold numsI
        rw [List.map_append]
        rfl
      generalize numB most x = bx at *
      generalize numI most x = nx at *
      go_wp2_with fail
      refine CN.out.mono ?_
      rintro e w1 ⟨n, rfl, hn, b1⟩
      have H1 := Lib.hid (And.intro (HS.out.1.then_below b1 HS.out.1.size) (And.intro HS.out.2.1 (And.intro HS.out.2.2.1 (And.intro (own_below HS.out.2.2.2 b1) hn))))
      have hwz1 : w.heap.size ≤ w1.heap.size := H1.out.1.size
      clear b1 hn HS CN
      obtain ⟨i0, hi0, hz0, hzz1, hz2⟩ := info_parts int_info2
      have HI := Lib.hid (And.intro hi0 (And.intro hz0 (And.intro hzz1 hz2)))
      clear hi0 hz0 hzz1 hz2
      go_wp2_with (at_builtin; refine hold ?_)
      refine loose ?_
      refine wpList_append_own _ rfl _ _ 22 rfl w.heap.size 3 i0 _ 1 8 Tryz.underlying22 HI.out.1 HI.out.2.1 HI.out.2.2.1 HI.out.2.2.2 rfl (by omega) _ l.length (l.map (Value.int .i64)) rfl (H1.out.2.2.2.1.alloc _) ⟨w1.heap.size, 0, none⟩ 1 1 [.int .i64 n] rfl rfl (cell_one_new _ _ _) (by intro u hu; simp at hu; subst hu; rfl) (by unfold maxLen; omega) (by omega) (by simp; omega) ?_
      intro v' w2 hown' hg' _
      have HF : Hid (Below w.heap.size w w2 ∧ (b && bx) = numsB most (ws.take (k + 1)) ∧ ((b && bx) = true → l ++ [n] = numsI most (ws.take (k + 1))) ∧ w2.ownsRow w.heap.size 3 1 v' (l ++ [n]).length ((l ++ [n]).map (Value.int .i64))) := by
        refine ⟨(H1.out.1.alloc hwz1 _).grown hg' (by simp; omega) (own_row H1.out.2.2.2.1), ?_, fun hb => ?_, ?_⟩
        · rw [HE1.out, ← H1.out.2.1]
        · rw [Bool.and_eq_true] at hb
          rw [HE2.out, H1.out.2.2.1 hb.1, H1.out.2.2.2.2 hb.2]
        · rw [List.length_append, List.map_append]
          exact hown'
      have hz3 := HF.out.1.size
      clear hown' hg' H1
      cases b
      · go_wp2_with fail
        go_roundw
        case rel => exact ⟨k + 1, l ++ [n], false, by omega, by go_num, rfl, by rw [List.length_append, HLK.out]; rfl, hz3, HF⟩
        case measure => simp [intOf]; omega
      · go_wp2_with fail
        go_roundw
        case rel => exact ⟨k + 1, l ++ [n], bx, by omega, by go_num, rfl, by rw [List.length_append, HLK.out]; rfl, hz3, by have h := HF.out; rw [Bool.true_and] at h; exact h⟩
        case measure => simp [intOf]; omega
    · have e : ws.take k = ws := List.take_of_length_le (by omega)
      have HF := HS
      rw [e] at HF
      have HK : Hid (l.length = ws.length) := by show _ = _; rw [HLK.out]; omega
      clear HS e
      go_wp2_with fail
      refine bodyPost_ret (v := .tuple #[.slice A6 l.length c6, .bool b]) (by unfold results; simp only [Tryz.results43]; go_simp) rfl ⟨_, by rw [HF.out.2.1], HF.out.1, l, HK.out, own_intz HF.out.2.2.2, fun h => HF.out.2.2.1 (HF.out.2.1.trans h)⟩


theorem numB_empty : numB 15 dS = false := (num_none (.inl rfl)).1
theorem takePt_has {i : Nat} {st : List (Int × Int)} {ws : List ByteArray} (h : has ws dS = true) : takePt i st ws = none := by
  refine takePt_bad ?_
  rw [Bool.eq_false_iff]
  intro hc
  have hm := has_iff.mp h
  have := List.all_eq_true.mp hc _ hm
  rw [numB_empty] at this
  cases this
theorem stepPt (i : Nat) (st : List (Int × Int)) (l : ByteArray) : stepW takePt i st l = takePt i st (wordsB l) := by
  unfold stepW
  split
  · rename_i h
    exact (takePt_has h).symm
  · rfl

end Go.Proofs.YtiooimfkobjpkaaGreatDoor
